/-
  Every number has just its bytes, and is read again, whatever stands behind: quadrillelaw01.InkNums returns true for every input, without any condition.
  (The frame behind the walk is the guide's shell.)
-/
import Derived.Test.YtoglhleljknhcaaRows
import Derived.WalkKit
import Derived.Test.YtoglhleljknhcaaAwake1
import Derived.Test.YtoglhleljknhcaaInkN
import Derived.Test.YtoglhleljknhcaaRefNum
import Derived.ProofKit
import Derived.OpenShut
import Derived.ShutString
import Derived.ChangeOld
import Derived.Below
namespace Go.Proofs.Ytoglhleljknhcaa.inkNums
open Go.ChangeShapes Go.WideShapes Go.ChangeAt Go.RowKit
open Go.ChangeMaps (open_string shut_string)
set_option linter.unusedVariables false

theorem own : ownKnob Try.prog.godebug = none := by kernel_rfl
theorem laidOut : laidOutB Try.prog = true := by kernel_rfl

set_option maxRecDepth 100000 in
set_option maxHeartbeats 2000000 in
theorem walk (a0 : Int) (a1 : Option Addr) (len1 cap1 : Nat) (z1 : List Int) (w : World) (w0 : (Lit.int .u64 a0).wf = true) (w1 : IsRow .u8 w a1 len1 cap1 z1) :
    Calls Try.prog 3 #[.int .u64 a0, .slice a1 len1 cap1] w fun e w' => e = .returned (.bool true) ∧ Below w.heap.size w w' := by
  obtain ⟨n, rfl⟩ := Int.eq_ofNat_of_zero_le (show 0 ≤ a0 by have := bounds_u64 w0; omega)
  have HA := hid (show n < 18446744073709551616 by have := bounds_u64 w0; omega)
  clear w0
  obtain ⟨ln, hln⟩ : ∃ ln, ln = (Ink.num n).length := ⟨_, rfl⟩
  have hl1 : 1 ≤ ln := by rw [hln]; exact (Ink.num_length n).2
  have hl2 : ln ≤ 10 := by rw [hln]; exact (Ink.num_length n).1
  have HLN := hid hln
  clear hln
  obtain ⟨hb1, hb2, hb3⟩ := w1.bounds
  clear hb3
  by_cases h6 : len1 ≤ 100
  · obtain ⟨t, ht, hrd⟩ := w1.rd (len1) (by omega)
    have HT := hid ht
    have hl100 : len1 ≤ 100 := by omega
    clear ht w1
    go_enter Try.func3, Try.ntmps3
    go_wp2_with fail
    refine (awake1_any w).mono ?_
    rintro e w1 ⟨rfl, hb1⟩
    go_wp2_with fail
    refine (new_any w1).mono ?_
    rintro e w2 ⟨rfl, hp2, hb2, hs2⟩
    clear hs2
    have hB2 := hb1.trans (hb2.mono hb1.size)
    go_wp2_with fail
    refine (pennum_at _ w1.heap.size _ [] n _ rfl HA.out w2 hp2 (by simp) hb2.size).mono ?_
    rintro e w3 ⟨rfl, v3, hp3, hk3, hf3⟩
    have hB3 : Below w.heap.size w w3 := hB2.trans ((hp2.low hk3 (fun _ h => h) hb2.size).mono hb1.size)
    rw [List.nil_append] at hp3
    clear hp2 hk3 hf3 hB2 hb2 hb1
    go_wp2_with fail
    refine (penbytes_any _ _ v3 (Ink.num n) false w3 hp3 (by rw [← HLN.out]; omega)).mono ?_
    rintro e w4 ⟨x4, rfl, ho4, hb4⟩
    have hp4 := hp3.below hb4
    have hB4 := hB3.trans (hb4.mono hB3.size)
    clear hp3 hB3
    go_wp2_with fail
    refine (refnum_any n _ rfl HA.out w4).mono ?_
    rintro e w5 ⟨x5, rfl, ho5, hb5⟩
    have hp5 := hp4.below hb5
    have ho45 := ho4.below hb5
    have hB5 := hB4.trans (hb5.mono hB4.size)
    clear hp4 hB4 ho4 hb4
    go_wp2_with fail
    refine (same_eq _ _ (Ink.num n) _ ho45.rd ho5.rd).mono ?_
    rintro e w6 ⟨rfl, rfl⟩
    clear ho45 ho5 hb5
    go_wp2_with fail
    refine (penbytes_any _ _ v3 (Ink.num n) false w5 hp5 (by rw [← HLN.out]; omega)).mono ?_
    rintro e w6 ⟨x6, rfl, ho6, hb6⟩
    have hB6 := hB5.trans (hb6.mono hB5.size)
    have hrd6 := hrd.below hB6
    have hbs : w5.heap.size ≤ w6.heap.size := hb6.size
    obtain ⟨xa, xc, rfl⟩ : ∃ xa xc, x6 = .slice xa ln xc := by
      obtain ⟨a, c, e, _⟩ := ho6.rd
      exact ⟨a, c, by rw [e, HLN.out]⟩
    clear hp5 hrd
    go_wp2_with (at_builtin; go_must (refine appk rfl (.tmp 25) (.tmp 26) rfl w5.heap.size (.slice xa ln xc) _ (Ink.num n) t (Ink.num n ++ t) (ln + (len1)) rfl rfl ho6 hrd6 (by rw [HLN.out, HT.out]) rfl (by rw [← HLN.out, HT.out]; omega) hbs ?_); intro ad7 cp7 w7 hown7 hgrow7)
    have hB7 : Below w.heap.size w w7 := hB5.trans ((ho6.grown hb6 hgrow7 (Nat.le_refl _) hb6.size).mono hB5.size)
    clear hB5 hB6 hb6 ho6 hgrow7 hrd6 hbs
    refine (read_any _ (Ink.num n ++ t) w7 hown7.rd (by rw [List.length_append, HT.out, ← HLN.out]; omega)).mono ?_
    rintro e w8 ⟨b8, v8, rfl, he8, hb8⟩
    have hB8 := hB7.trans (hb8.mono hB7.size)
    clear hown7
    go_wp2_with fail
    refine (eyenum_some _ b8 v8 (Ink.num n ++ t) n ln w8 he8 (by rw [HLN.out]; exact Ink.front_num n t HA.out) (by omega) (by rw [List.length_append, ← HLN.out]; omega)).mono ?_
    rintro e w9 ⟨rfl, v9, he9, hk9, ho9⟩
    rw [HLN.out, List.drop_left] at he9
    have hB9 : Below w.heap.size w w9 := hB8.trans (hk9.below hB8.size (fun i hi => by subst hi; have := he8.2.2.2; have := hB7.size; omega))
    clear he8 hk9 ho9 hB8 hB7 hb8
    go_wp2_with fail
    refine (left_any _ b8 v9 t false w9 he9).mono ?_
    rintro e w10 ⟨rfl, rfl⟩
    rw [HT.out]
    go_wp2
    go_ret
    exact ⟨rfl, hB9⟩
  · obtain ⟨t, ht, hrd⟩ := w1.rd (100) (by omega)
    have HT := hid ht
    have hl100 : 100 ≤ 100 := by omega
    clear ht w1
    go_enter Try.func3, Try.ntmps3
    go_wp2_with fail
    refine (awake1_any w).mono ?_
    rintro e w1 ⟨rfl, hb1⟩
    go_wp2_with fail
    refine (new_any w1).mono ?_
    rintro e w2 ⟨rfl, hp2, hb2, hs2⟩
    clear hs2
    have hB2 := hb1.trans (hb2.mono hb1.size)
    go_wp2_with fail
    refine (pennum_at _ w1.heap.size _ [] n _ rfl HA.out w2 hp2 (by simp) hb2.size).mono ?_
    rintro e w3 ⟨rfl, v3, hp3, hk3, hf3⟩
    have hB3 : Below w.heap.size w w3 := hB2.trans ((hp2.low hk3 (fun _ h => h) hb2.size).mono hb1.size)
    rw [List.nil_append] at hp3
    clear hp2 hk3 hf3 hB2 hb2 hb1
    go_wp2_with fail
    refine (penbytes_any _ _ v3 (Ink.num n) false w3 hp3 (by rw [← HLN.out]; omega)).mono ?_
    rintro e w4 ⟨x4, rfl, ho4, hb4⟩
    have hp4 := hp3.below hb4
    have hB4 := hB3.trans (hb4.mono hB3.size)
    clear hp3 hB3
    go_wp2_with fail
    refine (refnum_any n _ rfl HA.out w4).mono ?_
    rintro e w5 ⟨x5, rfl, ho5, hb5⟩
    have hp5 := hp4.below hb5
    have ho45 := ho4.below hb5
    have hB5 := hB4.trans (hb5.mono hB4.size)
    clear hp4 hB4 ho4 hb4
    go_wp2_with fail
    refine (same_eq _ _ (Ink.num n) _ ho45.rd ho5.rd).mono ?_
    rintro e w6 ⟨rfl, rfl⟩
    clear ho45 ho5 hb5
    go_wp2_with fail
    refine (penbytes_any _ _ v3 (Ink.num n) false w5 hp5 (by rw [← HLN.out]; omega)).mono ?_
    rintro e w6 ⟨x6, rfl, ho6, hb6⟩
    have hB6 := hB5.trans (hb6.mono hB5.size)
    have hrd6 := hrd.below hB6
    have hbs : w5.heap.size ≤ w6.heap.size := hb6.size
    obtain ⟨xa, xc, rfl⟩ : ∃ xa xc, x6 = .slice xa ln xc := by
      obtain ⟨a, c, e, _⟩ := ho6.rd
      exact ⟨a, c, by rw [e, HLN.out]⟩
    clear hp5 hrd
    go_wp2_with (at_builtin; go_must (refine appk rfl (.tmp 25) (.tmp 26) rfl w5.heap.size (.slice xa ln xc) _ (Ink.num n) t (Ink.num n ++ t) (ln + (100)) rfl rfl ho6 hrd6 (by rw [HLN.out, HT.out]) rfl (by rw [← HLN.out, HT.out]; omega) hbs ?_); intro ad7 cp7 w7 hown7 hgrow7)
    have hB7 : Below w.heap.size w w7 := hB5.trans ((ho6.grown hb6 hgrow7 (Nat.le_refl _) hb6.size).mono hB5.size)
    clear hB5 hB6 hb6 ho6 hgrow7 hrd6 hbs
    refine (read_any _ (Ink.num n ++ t) w7 hown7.rd (by rw [List.length_append, HT.out, ← HLN.out]; omega)).mono ?_
    rintro e w8 ⟨b8, v8, rfl, he8, hb8⟩
    have hB8 := hB7.trans (hb8.mono hB7.size)
    clear hown7
    go_wp2_with fail
    refine (eyenum_some _ b8 v8 (Ink.num n ++ t) n ln w8 he8 (by rw [HLN.out]; exact Ink.front_num n t HA.out) (by omega) (by rw [List.length_append, ← HLN.out]; omega)).mono ?_
    rintro e w9 ⟨rfl, v9, he9, hk9, ho9⟩
    rw [HLN.out, List.drop_left] at he9
    have hB9 : Below w.heap.size w w9 := hB8.trans (hk9.below hB8.size (fun i hi => by subst hi; have := he8.2.2.2; have := hB7.size; omega))
    clear he8 hk9 ho9 hB8 hB7 hb8
    go_wp2_with fail
    refine (left_any _ b8 v9 t false w9 he9).mono ?_
    rintro e w10 ⟨rfl, rfl⟩
    rw [HT.out]
    go_wp2
    go_ret
    exact ⟨rfl, hB9⟩

/-! ### THE ROW's STEP: WRITTEN OUT: LEAVE IT -/
set_option maxRecDepth 100000 in
theorem lifted (os : Os) (started : os.Started) (H : Type) (enc : TypeId × Value → H) :
    ReturnsInHanded {} Try.checked os 3 .any (Rows.inkNumsSpec.pre6 enc Try.prog Try.f3 Rows.inkNumsRow.domain false) (Rows.inkNumsSpec.post enc Try.prog Try.f3 false true false false) := by
  refine returnsInHanded_of_change (C := Try.checked) own started (by kernel_rfl) Try.func3
    (ChangeSpec.witness6 (enc := enc) (C := Try.checked) false ⟨#[], #[.int .u64 0, .slice none 0 0], []⟩ 8 (by kernel_rfl) (by kernel_rfl) (by kernel_rfl) (by kernel_rfl)) ?_
  intro W base args ds gs before hval0 hW hcnd _
  have hval : ∀ (j : Nat) t v, Try.f3.params[j]? = some t → args[j]? = some v → Value.okWide Try.prog W .any base t v := hval0
  have hW' := hW
  obtain ⟨p, q, hA0, hV, rfl, hfz, hnd⟩ := hW
  have hA : DataW.TrodAll enc Try.prog W 0 (fun _ => true) true Try.f3.params.toList args.toList ds p := hA0
  rw [Try.params3] at hA hval
  obtain ⟨v0, vs0, d0, ds0, p0, q0, hargs, rfl, rfl, h0, r0⟩ := trodAll_cons hA
  obtain ⟨v1, vs1, d1, ds1, p1, q1, rfl, rfl, rfl, h1, r1⟩ := trodAll_cons r0
  obtain ⟨rfl, rfl, rfl⟩ := trodAll_nil r1
  obtain rfl : args = #[v0, v1] := by cases args; simp_all
  obtain ⟨rfl, rfl⟩ := trodVars_none hV
  obtain ⟨a0, rfl, rfl, rfl, w0⟩ := open_int Try.underlying22 (hval 0 22 v0 rfl rfl) h0
  obtain ⟨a1, len1, cap1, rfl⟩ := okWide_slice Try.underlying23 (hval 1 23 v1 rfl rfl)
  have k1 := h1
  have lt1 : ∀ x ∈ p1, x.block < W.heap.size := by obtain ⟨m, hm⟩ := k1; exact DataW.trod_lt m _ _ _ hm
  obtain ⟨z1, w1⟩ : ∃ zs, IsRow .u8 W a1 len1 cap1 zs := by
    obtain ⟨fuel, hf⟩ := h1
    rcases open_ints Try.underlying23 Try.underlying5 (by kernel_rfl) hf with ⟨hcs, _⟩ | ⟨x, l, c, zs, hcs, _, hl, hm, hz, _, hcell, hwz⟩
    · simp [Value.cells] at hcs
      obtain ⟨rfl, rfl, rfl⟩ := hcs
      exact ⟨[], .inl ⟨rfl, rfl, rfl, rfl⟩⟩
    · simp [Value.cells] at hcs
      obtain ⟨rfl, rfl, rfl⟩ := hcs
      exact ⟨zs, .inr ⟨_, rfl, hl, hm, by simpa using hz, hcell, hwz⟩⟩
  clear hA0 hval0
  refine (walk a0 a1 len1 cap1 z1 W w0 w1).mono fun e W' ⟨he, bel⟩ => ?_
  subst he
  exact ⟨_, rfl, _, _, _, [], _, [], hW', trodAll_mk1 (shut_bool Try.underlying4 _), (trodAll_cons_mk (shut_int Try.underlying22 w0) (trodAll_cons_mk (Below.trod laidOut (by kernel_rfl) (of_decide_eq_true (by kernel_rfl)) k1 bel lt1) trodAll_mk0)), rfl, bel.frame _, fun h => by cases h⟩

theorem over : Rows.inkNumsRow.holds Try.pinned (OpenSpec.ofChange Rows.inkNumsSpec) :=
  OpenClaim.holds_of_wide 3 Try.f3 rfl rfl rfl rfl rfl rfl rfl ⟨rfl, rfl, rfl, rfl, rfl⟩ rfl rfl rfl rfl rfl (by kernel_rfl) Try.func3 (by kernel_rfl)
    (of_decide_eq_true (by kernel_rfl)) (by unfold Func.isWrapper; first | (rw [if_pos (by decide +kernel)]; kernel_rfl) | (rw [if_neg (by decide +kernel)]; exact ⟨rfl, rfl⟩))
    (fun os started H enc _ => lifted os started H enc)

/-- ████ THE STATEMENT ████ -/
theorem inkNums_holds : Rows.InkNumsSaid := over
#print axioms inkNums_holds
end Go.Proofs.Ytoglhleljknhcaa.inkNums
