/-
  A greater number never has fewer bytes, and two unlike numbers never the same: quadrillelaw01.InkOrder returns true for every input, without any condition.
  (The frame behind the walk is the guide's shell.)
-/
import Derived.Test.YtoglhleljknhcaaRows
import Derived.WalkKit
import Derived.Test.YtoglhleljknhcaaAwake1
import Derived.ProofKit
import Derived.OpenShut
import Derived.ShutString
namespace Go.Proofs.Ytoglhleljknhcaa.inkOrder
open Go.ChangeShapes Go.WideShapes Go.ChangeAt Go.RowKit
open Go.ChangeMaps (open_string shut_string)
set_option linter.unusedVariables false      -- a walk need not use every 'w<i>' (that an integer argument fits its kind)

theorem own : ownKnob Try.prog.godebug = none := by kernel_rfl

set_option maxRecDepth 100000 in
set_option maxHeartbeats 2000000 in
theorem walk (a0 : Int) (a1 : Int) (w0 : (Lit.int .u64 a0).wf = true) (w1 : (Lit.int .u64 a1).wf = true) (w : World) :
    Calls Try.prog 8 #[.int .u64 a0, .int .u64 a1] w fun e w' => e = .returned (.bool true) ∧ Below w.heap.size w w' := by
  obtain ⟨n, rfl⟩ := Int.eq_ofNat_of_zero_le (show 0 ≤ a0 by have := bounds_u64 w0; omega)
  obtain ⟨m, rfl⟩ := Int.eq_ofNat_of_zero_le (show 0 ≤ a1 by have := bounds_u64 w1; omega)
  have HA := hid (show n < 18446744073709551616 by have := bounds_u64 w0; omega)
  have HB := hid (show m < 18446744073709551616 by have := bounds_u64 w1; omega)
  clear w0 w1
  rcases Nat.lt_trichotomy n m with hab | hab | hab
  · have hq := hid (show ((n : Int) == (m : Int)) = false by simp; omega)
    have hle := Ink.num_mono n m (by omega)
    have hne := hid (show (Ink.num n == Ink.num m) = false by
      rw [beq_eq_false_iff_ne]
      intro e
      have := Ink.num_inj n m HA.out HB.out e
      omega)
    have hlt : (n : Int) < (m : Int) := by omega
    have hng : ¬ (m : Int) < (n : Int) := by omega
    obtain ⟨ln, hln⟩ : ∃ ln, ln = (Ink.num n).length := ⟨_, rfl⟩
    obtain ⟨lm, hlm⟩ : ∃ lm, lm = (Ink.num m).length := ⟨_, rfl⟩
    have hl1 : 1 ≤ ln := by rw [hln]; exact (Ink.num_length n).2
    have hl2 : ln ≤ 10 := by rw [hln]; exact (Ink.num_length n).1
    have hl3 : lm ≤ 10 := by rw [hlm]; exact (Ink.num_length m).1
    have hl4 : ln ≤ lm := by rw [hln, hlm]; exact hle
    clear hle
    have HLN := hid hln
    have HLM := hid hlm
    clear hln hlm
    go_enter Try.func8, Try.ntmps8
    go_wp2_with fail
    refine (awake1_any w).mono ?_
    rintro e w1 ⟨rfl, hb1⟩
    go_wp2_with fail
    refine (new_any w1).mono ?_
    rintro e w2 ⟨rfl, hp2, hb2, hs2⟩
    have HS2 := hid hs2
    clear hs2
    have hB2 := hb1.trans (hb2.mono hb1.size)
    go_wp2_with fail
    refine (new_any w2).mono ?_
    rintro e w3 ⟨rfl, hq3, hb3, hs3⟩
    clear hs3
    have hp3 := hp2.below hb3
    have hB3 := hB2.trans (hb3.mono hB2.size)
    go_wp2_with fail
    refine (pennum_at _ w1.heap.size _ [] n _ rfl HA.out w3 hp3 (by simp) (Nat.le_trans hb2.size hb3.size)).mono ?_
    rintro e w4 ⟨rfl, v4, hp4, hk4, hf4⟩
    have hq4 := hq3.keeps hk4 (fun k hk hs => by
      have h1 := hp2.lt
      rcases hk with rfl | hk
      · rcases hs with h | h
        · omega
        · simp [Value.ownBlock] at h
      · simp [Value.ownBlock] at hk)
    have hB4 : Below w.heap.size w w4 := hB3.trans ((hp3.low hk4 (fun _ h => h) (Nat.le_trans hb2.size hb3.size)).mono hb1.size)
    go_wp2_with fail
    refine (pennum_at _ w2.heap.size _ [] m _ rfl HB.out w4 hq4 (by simp) (Nat.le_trans hb3.size hk4.size)).mono ?_
    rintro e w5 ⟨rfl, v5, hq5, hk5, hf5⟩
    have hp5 := hp4.keeps hk5 (fun k hk hs => by
      have h1 := hp2.lt
      have h2 := hb3.size
      rcases hs with rfl | h
      · rcases hk with h | h
        · omega
        · rcases hf4 _ h with h' | h'
          · simp [Value.ownBlock] at h'
          · have := hq3.lt; omega
      · simp [Value.ownBlock] at h)
    have hB5 : Below w.heap.size w w5 := hB4.trans ((hq4.low hk5 (fun _ h => h) (Nat.le_trans hb3.size hk4.size)).mono hB2.size)
    rw [List.nil_append] at hp5 hq5
    clear hp2 hb2 hB2 hq3 hb3 hp3 hB3 hp4 hk4 hf4 hq4 hB4 hk5 hf5 hb1 HS2
    go_wp2_with fail
    refine (penbytes_any _ _ v4 (Ink.num n) false w5 hp5 (by rw [← HLN.out]; omega)).mono ?_
    rintro e w6 ⟨x6, rfl, ho6, hb6⟩
    have hq6 := hq5.below hb6
    have hB6 := hB5.trans (hb6.mono hB5.size)
    obtain ⟨xa, xc, rfl⟩ : ∃ xa xc, x6 = .slice xa ln xc := by
      obtain ⟨a, c, e, _⟩ := ho6.rd
      exact ⟨a, c, by rw [e, HLN.out]⟩
    go_wp2_with fail
    refine (penbytes_any _ _ v5 (Ink.num m) false w6 hq6 (by rw [← HLM.out]; omega)).mono ?_
    rintro e w7 ⟨y7, rfl, ho7, hb7⟩
    have hB7 := hB6.trans (hb7.mono hB6.size)
    obtain ⟨ya, yc, rfl⟩ : ∃ ya yc, y7 = .slice ya lm yc := by
      obtain ⟨a, c, e, _⟩ := ho7.rd
      exact ⟨a, c, by rw [e, HLM.out]⟩
    have ho6 := ho6.below hb7
    clear hp5 hq5 hB5 hb6 hq6 hB6 hb7
    go_wp2_with fail
    refine (same_any _ _ (Ink.num n) (Ink.num m) _ ho6.rd ho7.rd).mono ?_
    rintro e w8 ⟨rfl, rfl⟩
    rw [hne.out]
    have hq' := hq.out
    go_wp2
    go_ret
    first
      | exact ⟨rfl, hB7⟩
      | exact ⟨by show Ending.returned (.bool (decide ((ln : Int) ≤ 10))) = _; rw [decide_eq_true (by omega)], hB7⟩
      | exact ⟨by simp; omega, hB7⟩
  · subst hab
    have hq := hid (show ((n : Int) == (n : Int)) = true by simp)
    obtain ⟨ln, hln⟩ : ∃ ln, ln = (Ink.num n).length := ⟨_, rfl⟩
    obtain ⟨lm, hlm⟩ : ∃ lm, lm = (Ink.num n).length := ⟨_, rfl⟩
    have hl1 : 1 ≤ ln := by rw [hln]; exact (Ink.num_length n).2
    have hl2 : ln ≤ 10 := by rw [hln]; exact (Ink.num_length n).1
    have hl3 : lm ≤ 10 := by rw [hlm]; exact (Ink.num_length n).1
    have hl4 : ln ≤ lm := by omega
    have HLN := hid hln
    have HLM := hid hlm
    clear hln hlm
    go_enter Try.func8, Try.ntmps8
    go_wp2_with fail
    refine (awake1_any w).mono ?_
    rintro e w1 ⟨rfl, hb1⟩
    go_wp2_with fail
    refine (new_any w1).mono ?_
    rintro e w2 ⟨rfl, hp2, hb2, hs2⟩
    have HS2 := hid hs2
    clear hs2
    have hB2 := hb1.trans (hb2.mono hb1.size)
    go_wp2_with fail
    refine (new_any w2).mono ?_
    rintro e w3 ⟨rfl, hq3, hb3, hs3⟩
    clear hs3
    have hp3 := hp2.below hb3
    have hB3 := hB2.trans (hb3.mono hB2.size)
    go_wp2_with fail
    refine (pennum_at _ w1.heap.size _ [] n _ rfl HA.out w3 hp3 (by simp) (Nat.le_trans hb2.size hb3.size)).mono ?_
    rintro e w4 ⟨rfl, v4, hp4, hk4, hf4⟩
    have hq4 := hq3.keeps hk4 (fun k hk hs => by
      have h1 := hp2.lt
      rcases hk with rfl | hk
      · rcases hs with h | h
        · omega
        · simp [Value.ownBlock] at h
      · simp [Value.ownBlock] at hk)
    have hB4 : Below w.heap.size w w4 := hB3.trans ((hp3.low hk4 (fun _ h => h) (Nat.le_trans hb2.size hb3.size)).mono hb1.size)
    go_wp2_with fail
    refine (pennum_at _ w2.heap.size _ [] n _ rfl HB.out w4 hq4 (by simp) (Nat.le_trans hb3.size hk4.size)).mono ?_
    rintro e w5 ⟨rfl, v5, hq5, hk5, hf5⟩
    have hp5 := hp4.keeps hk5 (fun k hk hs => by
      have h1 := hp2.lt
      have h2 := hb3.size
      rcases hs with rfl | h
      · rcases hk with h | h
        · omega
        · rcases hf4 _ h with h' | h'
          · simp [Value.ownBlock] at h'
          · have := hq3.lt; omega
      · simp [Value.ownBlock] at h)
    have hB5 : Below w.heap.size w w5 := hB4.trans ((hq4.low hk5 (fun _ h => h) (Nat.le_trans hb3.size hk4.size)).mono hB2.size)
    rw [List.nil_append] at hp5 hq5
    clear hp2 hb2 hB2 hq3 hb3 hp3 hB3 hp4 hk4 hf4 hq4 hB4 hk5 hf5 hb1 HS2
    go_wp2_with fail
    refine (penbytes_any _ _ v4 (Ink.num n) false w5 hp5 (by rw [← HLN.out]; omega)).mono ?_
    rintro e w6 ⟨x6, rfl, ho6, hb6⟩
    have hq6 := hq5.below hb6
    have hB6 := hB5.trans (hb6.mono hB5.size)
    obtain ⟨xa, xc, rfl⟩ : ∃ xa xc, x6 = .slice xa ln xc := by
      obtain ⟨a, c, e, _⟩ := ho6.rd
      exact ⟨a, c, by rw [e, HLN.out]⟩
    go_wp2_with fail
    refine (penbytes_any _ _ v5 (Ink.num n) false w6 hq6 (by rw [← HLM.out]; omega)).mono ?_
    rintro e w7 ⟨y7, rfl, ho7, hb7⟩
    have hB7 := hB6.trans (hb7.mono hB6.size)
    obtain ⟨ya, yc, rfl⟩ : ∃ ya yc, y7 = .slice ya lm yc := by
      obtain ⟨a, c, e, _⟩ := ho7.rd
      exact ⟨a, c, by rw [e, HLM.out]⟩
    have ho6 := ho6.below hb7
    clear hp5 hq5 hB5 hb6 hq6 hB6 hb7
    go_wp2_with fail
    refine (same_eq _ _ (Ink.num n) _ ho6.rd ho7.rd).mono ?_
    rintro e w8 ⟨rfl, rfl⟩
    have hq' := hq.out
    go_wp2
    go_ret
    first
      | exact ⟨rfl, hB7⟩
      | exact ⟨by show Ending.returned (.bool (decide ((ln : Int) ≤ 10))) = _; rw [decide_eq_true (by omega)], hB7⟩
      | exact ⟨by simp; omega, hB7⟩
  · have hq := hid (show ((n : Int) == (m : Int)) = false by simp; omega)
    have hne := hid (show (Ink.num n == Ink.num m) = false by
      rw [beq_eq_false_iff_ne]
      intro e
      have := Ink.num_inj n m HA.out HB.out e
      omega)
    have hng : (m : Int) < (n : Int) := by omega
    obtain ⟨ln, hln⟩ : ∃ ln, ln = (Ink.num n).length := ⟨_, rfl⟩
    obtain ⟨lm, hlm⟩ : ∃ lm, lm = (Ink.num m).length := ⟨_, rfl⟩
    have hl1 : 1 ≤ ln := by rw [hln]; exact (Ink.num_length n).2
    have hl2 : ln ≤ 10 := by rw [hln]; exact (Ink.num_length n).1
    have hl3 : lm ≤ 10 := by rw [hlm]; exact (Ink.num_length m).1
    have HLN := hid hln
    have HLM := hid hlm
    clear hln hlm
    go_enter Try.func8, Try.ntmps8
    go_wp2_with fail
    refine (awake1_any w).mono ?_
    rintro e w1 ⟨rfl, hb1⟩
    go_wp2_with fail
    refine (new_any w1).mono ?_
    rintro e w2 ⟨rfl, hp2, hb2, hs2⟩
    have HS2 := hid hs2
    clear hs2
    have hB2 := hb1.trans (hb2.mono hb1.size)
    go_wp2_with fail
    refine (new_any w2).mono ?_
    rintro e w3 ⟨rfl, hq3, hb3, hs3⟩
    clear hs3
    have hp3 := hp2.below hb3
    have hB3 := hB2.trans (hb3.mono hB2.size)
    go_wp2_with fail
    refine (pennum_at _ w1.heap.size _ [] n _ rfl HA.out w3 hp3 (by simp) (Nat.le_trans hb2.size hb3.size)).mono ?_
    rintro e w4 ⟨rfl, v4, hp4, hk4, hf4⟩
    have hq4 := hq3.keeps hk4 (fun k hk hs => by
      have h1 := hp2.lt
      rcases hk with rfl | hk
      · rcases hs with h | h
        · omega
        · simp [Value.ownBlock] at h
      · simp [Value.ownBlock] at hk)
    have hB4 : Below w.heap.size w w4 := hB3.trans ((hp3.low hk4 (fun _ h => h) (Nat.le_trans hb2.size hb3.size)).mono hb1.size)
    go_wp2_with fail
    refine (pennum_at _ w2.heap.size _ [] m _ rfl HB.out w4 hq4 (by simp) (Nat.le_trans hb3.size hk4.size)).mono ?_
    rintro e w5 ⟨rfl, v5, hq5, hk5, hf5⟩
    have hp5 := hp4.keeps hk5 (fun k hk hs => by
      have h1 := hp2.lt
      have h2 := hb3.size
      rcases hs with rfl | h
      · rcases hk with h | h
        · omega
        · rcases hf4 _ h with h' | h'
          · simp [Value.ownBlock] at h'
          · have := hq3.lt; omega
      · simp [Value.ownBlock] at h)
    have hB5 : Below w.heap.size w w5 := hB4.trans ((hq4.low hk5 (fun _ h => h) (Nat.le_trans hb3.size hk4.size)).mono hB2.size)
    rw [List.nil_append] at hp5 hq5
    clear hp2 hb2 hB2 hq3 hb3 hp3 hB3 hp4 hk4 hf4 hq4 hB4 hk5 hf5 hb1 HS2
    go_wp2_with fail
    refine (penbytes_any _ _ v4 (Ink.num n) false w5 hp5 (by rw [← HLN.out]; omega)).mono ?_
    rintro e w6 ⟨x6, rfl, ho6, hb6⟩
    have hq6 := hq5.below hb6
    have hB6 := hB5.trans (hb6.mono hB5.size)
    obtain ⟨xa, xc, rfl⟩ : ∃ xa xc, x6 = .slice xa ln xc := by
      obtain ⟨a, c, e, _⟩ := ho6.rd
      exact ⟨a, c, by rw [e, HLN.out]⟩
    go_wp2_with fail
    refine (penbytes_any _ _ v5 (Ink.num m) false w6 hq6 (by rw [← HLM.out]; omega)).mono ?_
    rintro e w7 ⟨y7, rfl, ho7, hb7⟩
    have hB7 := hB6.trans (hb7.mono hB6.size)
    obtain ⟨ya, yc, rfl⟩ : ∃ ya yc, y7 = .slice ya lm yc := by
      obtain ⟨a, c, e, _⟩ := ho7.rd
      exact ⟨a, c, by rw [e, HLM.out]⟩
    have ho6 := ho6.below hb7
    clear hp5 hq5 hB5 hb6 hq6 hB6 hb7
    go_wp2_with fail
    refine (same_any _ _ (Ink.num n) (Ink.num m) _ ho6.rd ho7.rd).mono ?_
    rintro e w8 ⟨rfl, rfl⟩
    rw [hne.out]
    have hq' := hq.out
    go_wp2
    go_ret
    exact ⟨by show Ending.returned (.bool (decide ((ln : Int) ≤ 10))) = _; rw [decide_eq_true (by omega)], hB7⟩

/-! ### THE ROW's STEP: WRITTEN OUT: LEAVE IT -/
set_option maxRecDepth 100000 in
theorem lifted (os : Os) (started : os.Started) (H : Type) (enc : TypeId × Value → H) :
    ReturnsInHanded {} Try.checked os 8 .any (Rows.inkOrderSpec.pre6 enc Try.prog Try.f8 Rows.inkOrderRow.domain false) (Rows.inkOrderSpec.post enc Try.prog Try.f8 false true false false) := by
  refine returnsInHanded_of_change (C := Try.checked) own started (by kernel_rfl) Try.func8
    (ChangeSpec.witness6 (enc := enc) (C := Try.checked) false ⟨#[], #[.int .u64 0, .int .u64 0], []⟩ 8 (by kernel_rfl) (by kernel_rfl) (by kernel_rfl) (by kernel_rfl)) ?_
  intro W base args ds gs before hval0 hW hcnd _
  have hval : ∀ (j : Nat) t v, Try.f8.params[j]? = some t → args[j]? = some v → Value.okWide Try.prog W .any base t v := hval0
  have hW' := hW
  obtain ⟨p, q, hA0, hV, rfl, hfz, hnd⟩ := hW
  have hA : DataW.TrodAll enc Try.prog W 0 (fun _ => true) true Try.f8.params.toList args.toList ds p := hA0
  rw [Try.params8] at hA hval
  obtain ⟨v0, vs0, d0, ds0, p0, q0, hargs, rfl, rfl, h0, r0⟩ := trodAll_cons hA
  obtain ⟨v1, vs1, d1, ds1, p1, q1, rfl, rfl, rfl, h1, r1⟩ := trodAll_cons r0
  obtain ⟨rfl, rfl, rfl⟩ := trodAll_nil r1
  obtain rfl : args = #[v0, v1] := by cases args; simp_all
  obtain ⟨rfl, rfl⟩ := trodVars_none hV
  obtain ⟨a0, rfl, rfl, rfl, w0⟩ := open_int Try.underlying22 (hval 0 22 v0 rfl rfl) h0
  obtain ⟨a1, rfl, rfl, rfl, w1⟩ := open_int Try.underlying22 (hval 1 22 v1 rfl rfl) h1
  clear hA0 hval0
  refine (walk a0 a1 w0 w1 W).mono fun e W' ⟨he, hg⟩ => ?_
  subst he
  exact ⟨_, rfl, _, _, _, [], _, [], hW', trodAll_mk1 (shut_bool Try.underlying4 _), (trodAll_cons_mk (shut_int Try.underlying22 w0) (trodAll_cons_mk (shut_int Try.underlying22 w1) trodAll_mk0)), rfl, hg.frame _, fun h => by cases h⟩

theorem over : Rows.inkOrderRow.holds Try.pinned (OpenSpec.ofChange Rows.inkOrderSpec) :=
  OpenClaim.holds_of_wide 8 Try.f8 rfl rfl rfl rfl rfl rfl rfl ⟨rfl, rfl, rfl, rfl, rfl⟩ rfl rfl rfl rfl rfl (by kernel_rfl) Try.func8 (by kernel_rfl)
    (of_decide_eq_true (by kernel_rfl)) (by unfold Func.isWrapper; first | (rw [if_pos (by decide +kernel)]; kernel_rfl) | (rw [if_neg (by decide +kernel)]; exact ⟨rfl, rfl⟩))
    (fun os started H enc _ => lifted os started H enc)

/-- ████ THE STATEMENT ████ -/
theorem inkOrder_holds : Rows.InkOrderSaid :=
  over
#print axioms inkOrder_holds
end Go.Proofs.Ytoglhleljknhcaa.inkOrder
