/-
  Every burst is found: of a knot any bits within 32 that follow one another may be turned, it is none any more: quadrillelaw02.KnotBursts returns true for every input, without any condition.
  (The frame behind the walk is the guide's shell.)
-/
import Derived.Test.YtoglhleljknhcaaRows
import Derived.WalkKit
import Derived.Test.YtoglhleljknhcaaTurn
import Derived.Test.YtoglhleljknhcaaTie
import Derived.Test.YtoglhleljknhcaaBurst
import Derived.ProofKit
import Derived.OpenShut
import Derived.ShutString
import Derived.ChangeOld
import Derived.Below
namespace Go.Proofs.Ytoglhleljknhcaa.knotBursts
open Go.ChangeShapes Go.WideShapes Go.ChangeAt Go.RowKit
open Go.ChangeMaps (open_string shut_string)
set_option linter.unusedVariables false

theorem own : ownKnob Try.prog.godebug = none := by kernel_rfl
theorem laidOut : laidOutB Try.prog = true := by kernel_rfl

theorem odd_or (q : Nat) (hq : q < 4294967296) : ∃ pat : BitVec 32, pat.getLsbD 0 = true ∧ Go.bits .or .u32 (q : Int) 1 = (pat.toNat : Int) := by
  refine ⟨BitVec.ofNat 32 q ||| 1#32, by simp, ?_⟩
  rw [show ((1 : Int)) = ((1 : Nat) : Int) from rfl, u32_or_nat q 1 hq (by omega), BitVec.toNat_or]
  simp [Nat.mod_eq_of_lt hq]

set_option maxRecDepth 100000 in
set_option maxHeartbeats 1000000 in
theorem walk (a0 : Option Addr) (len0 cap0 : Nat) (z0 : List Int) (a1 : Int) (a2 : Int) (w : World) (w0 : IsRow .u8 w a0 len0 cap0 z0) (w1 : (Lit.int .u16 a1).wf = true) (w2 : (Lit.int .u32 a2).wf = true) :
    Calls Try.prog 13 #[.slice a0 len0 cap0, .int .u16 a1, .int .u32 a2] w fun e w' => e = .returned (.bool true) ∧ Below w.heap.size w w' := by
  obtain ⟨hb1, hb2, hb3⟩ := w0.bounds
  obtain ⟨q1, rfl⟩ := Int.eq_ofNat_of_zero_le (show 0 ≤ a1 by have := bounds_u16 w1; omega)
  obtain ⟨q2, rfl⟩ := Int.eq_ofNat_of_zero_le (show 0 ≤ a2 by have := bounds_u32 w2; omega)
  have hq1 : q1 < 65536 := by have := bounds_u16 w1; omega
  have hq2 : q2 < 4294967296 := by have := bounds_u32 w2; omega
  obtain ⟨pat, hp0, hpe⟩ := odd_or q2 hq2
  have HP := hid hpe
  have HP0 := hid hp0
  clear hpe hp0 w1 w2 hb3
  by_cases h6 : len0 ≤ 1000
  · obtain ⟨l, hl, hrd⟩ := w0.rd len0 (by omega)
    have HL := hid hl
    have hkl := hid (show (Knot.knot l).length = len0 + 6 by rw [Knot.knot_length, hl])
    have hlong := hid (show l.length ≤ 2048 by omega)
    obtain ⟨m, hm⟩ : ∃ m, m = q1 % (8 * (len0 + 6)) := ⟨_, rfl⟩
    have hmk := hid (show m < 8 * (len0 + 6) by rw [hm]; exact Nat.mod_lt _ (by omega))
    have hme := hid (show (q1 : Int) % ((8 * (len0 + 6) : Nat) : Int) = (m : Int) by rw [hm]; simp)
    have hm9 : m ≤ q1 := by rw [hm]; exact Nat.mod_le _ _
    clear hl w0 hm
    go_enter Try.func13, Try.ntmps13
    go_wp2_with fail
    refine (awake2_any w).mono ?_
    rintro e w1 ⟨rfl, hb1⟩
    go_wp2_with (first
      | (at_builtin; go_must (refine appk rfl (.tmp 14) (.tmp 19) rfl w.heap.size (.slice (some ⟨w1.heap.size, 0, none⟩) 0 0) _ [] l l len0 rfl rfl (Own.empty w1 _ hb1.size) ((hrd.below hb1).alloc _) (by rw [List.length_nil, Nat.zero_add, HL.out]) rfl (by rw [List.length_nil, HL.out]; omega) (by have := hb1.size; simp; omega) ?_); intro ad2 cp2 w2 hown2 hgrow2; have hb2 : Below w.heap.size w w2 := (Own.empty w1 _ hb1.size).grown (hb1.alloc hb1.size _) hgrow2 (Nat.le_refl _) (by have := hb1.size; simp; omega); clear hgrow2)
      | fail)
    refine (tie_any _ l _ hown2.rd hlong.out).mono ?_
    rintro e w3 ⟨kv, rfl, hown3, hb3⟩
    have hb : Below w.heap.size w w3 := hb2.trans (hb3.mono hb2.size)
    have hrd3 := hown3.rd
    obtain ⟨ad, cp, rfl⟩ : ∃ ad cp, kv = .slice ad (len0 + 6) cp := by
      obtain ⟨ad, cp, e, _⟩ := hrd3
      exact ⟨ad, cp, by rw [e, hkl.out]⟩
    clear hb1 hb2 hown2 hown3
    go_wp2_with fail
    refine (turn_at _ (Knot.knot l) m pat _ _ _ (by rw [← hme.out]; simp) HP.out hrd3 (by rw [hkl.out]; omega) (by rw [hkl.out]; omega) (by omega)).mono ?_
    rintro e w4 ⟨tv, t', rfl, hown4, hlen, hbits, hb4⟩
    have hne := Knot.uerr_burst l t' hlong.out hlen m pat HP0.out (by rw [hkl.out]; have := hmk.out; omega) hbits
    have hq : ((Knot.uerr t' : Int) != 0) = true := by simpa using hne
    have h6 : t'.length ≤ 140737488355328 := by rw [hlen, hkl.out]; omega
    obtain ⟨u, hu⟩ : ∃ u, u = Knot.uerr t' := ⟨_, rfl⟩
    rw [← hu] at hq
    have HU := hid hu
    clear hlen hbits hne hu
    go_wp2_with fail
    refine (untie_any _ t' _ hown4.rd h6).mono ?_
    rintro e w5 ⟨uv, rfl, _, hb5⟩
    rw [← HU.out]
    go_wp2
    go_ret
    exact ⟨by rw [← hq]; rfl, hb.trans ((hb4.trans (hb5.mono hb4.size)).mono hb.size)⟩
  · obtain ⟨l, hl, hrd⟩ := w0.rd 1000 (by omega)
    have HL := hid hl
    have hkl := hid (show (Knot.knot l).length = 1006 by rw [Knot.knot_length, hl])
    have hlong := hid (show l.length ≤ 2048 by omega)
    obtain ⟨m, hm⟩ : ∃ m, m = q1 % (8048) := ⟨_, rfl⟩
    have hmk := hid (show m < 8048 by rw [hm]; exact Nat.mod_lt _ (by omega))
    have hme := hid (show (q1 : Int) % ((8048 : Nat) : Int) = (m : Int) by rw [hm]; simp)
    have hm9 : m ≤ q1 := by rw [hm]; exact Nat.mod_le _ _
    clear hl w0 hm
    go_enter Try.func13, Try.ntmps13
    go_wp2_with fail
    refine (awake2_any w).mono ?_
    rintro e w1 ⟨rfl, hb1⟩
    go_wp2_with (first
      | (at_builtin; go_must (refine appk rfl (.tmp 14) (.tmp 19) rfl w.heap.size (.slice (some ⟨w1.heap.size, 0, none⟩) 0 0) _ [] l l 1000 rfl rfl (Own.empty w1 _ hb1.size) ((hrd.below hb1).alloc _) (by rw [List.length_nil, Nat.zero_add, HL.out]) rfl (by rw [List.length_nil, HL.out]; omega) (by have := hb1.size; simp; omega) ?_); intro ad2 cp2 w2 hown2 hgrow2; have hb2 : Below w.heap.size w w2 := (Own.empty w1 _ hb1.size).grown (hb1.alloc hb1.size _) hgrow2 (Nat.le_refl _) (by have := hb1.size; simp; omega); clear hgrow2)
      | fail)
    refine (tie_any _ l _ hown2.rd hlong.out).mono ?_
    rintro e w3 ⟨kv, rfl, hown3, hb3⟩
    have hb : Below w.heap.size w w3 := hb2.trans (hb3.mono hb2.size)
    have hrd3 := hown3.rd
    obtain ⟨ad, cp, rfl⟩ : ∃ ad cp, kv = .slice ad (1006) cp := by
      obtain ⟨ad, cp, e, _⟩ := hrd3
      exact ⟨ad, cp, by rw [e, hkl.out]⟩
    clear hb1 hb2 hown2 hown3
    go_wp2_with fail
    refine (turn_at _ (Knot.knot l) m pat _ _ _ (by rw [← hme.out]; simp) HP.out hrd3 (by rw [hkl.out]; omega) (by rw [hkl.out]; omega) (by omega)).mono ?_
    rintro e w4 ⟨tv, t', rfl, hown4, hlen, hbits, hb4⟩
    have hne := Knot.uerr_burst l t' hlong.out hlen m pat HP0.out (by rw [hkl.out]; have := hmk.out; omega) hbits
    have hq : ((Knot.uerr t' : Int) != 0) = true := by simpa using hne
    have h6 : t'.length ≤ 140737488355328 := by rw [hlen, hkl.out]; omega
    obtain ⟨u, hu⟩ : ∃ u, u = Knot.uerr t' := ⟨_, rfl⟩
    rw [← hu] at hq
    have HU := hid hu
    clear hlen hbits hne hu
    go_wp2_with fail
    refine (untie_any _ t' _ hown4.rd h6).mono ?_
    rintro e w5 ⟨uv, rfl, _, hb5⟩
    rw [← HU.out]
    go_wp2
    go_ret
    exact ⟨by rw [← hq]; rfl, hb.trans ((hb4.trans (hb5.mono hb4.size)).mono hb.size)⟩

/-! ### THE ROW's STEP: WRITTEN OUT: LEAVE IT -/
set_option maxRecDepth 100000 in
theorem lifted (os : Os) (started : os.Started) (H : Type) (enc : TypeId × Value → H) :
    ReturnsInHanded {} Try.checked os 13 .any (Rows.knotBurstsSpec.pre6 enc Try.prog Try.f13 Rows.knotBurstsRow.domain false) (Rows.knotBurstsSpec.post enc Try.prog Try.f13 false true false false) := by
  refine returnsInHanded_of_change (C := Try.checked) own started (by kernel_rfl) Try.func13
    (ChangeSpec.witness6 (enc := enc) (C := Try.checked) false ⟨#[], #[.slice none 0 0, .int .u16 0, .int .u32 0], []⟩ 8 (by kernel_rfl) (by kernel_rfl) (by kernel_rfl) (by kernel_rfl)) ?_
  intro W base args ds gs before hval0 hW hcnd _
  have hval : ∀ (j : Nat) t v, Try.f13.params[j]? = some t → args[j]? = some v → Value.okWide Try.prog W .any base t v := hval0
  have hW' := hW
  obtain ⟨p, q, hA0, hV, rfl, hfz, hnd⟩ := hW
  have hA : DataW.TrodAll enc Try.prog W 0 (fun _ => true) true Try.f13.params.toList args.toList ds p := hA0
  rw [Try.params13] at hA hval
  obtain ⟨v0, vs0, d0, ds0, p0, q0, hargs, rfl, rfl, h0, r0⟩ := trodAll_cons hA
  obtain ⟨v1, vs1, d1, ds1, p1, q1, rfl, rfl, rfl, h1, r1⟩ := trodAll_cons r0
  obtain ⟨v2, vs2, d2, ds2, p2, q2, rfl, rfl, rfl, h2, r2⟩ := trodAll_cons r1
  obtain ⟨rfl, rfl, rfl⟩ := trodAll_nil r2
  obtain rfl : args = #[v0, v1, v2] := by cases args; simp_all
  obtain ⟨rfl, rfl⟩ := trodVars_none hV
  obtain ⟨a0, len0, cap0, rfl⟩ := okWide_slice Try.underlying23 (hval 0 23 v0 rfl rfl)
  have k0 := h0
  have lt0 : ∀ x ∈ p0, x.block < W.heap.size := by obtain ⟨m, hm⟩ := k0; exact DataW.trod_lt m _ _ _ hm
  obtain ⟨z0, w0⟩ : ∃ zs, IsRow .u8 W a0 len0 cap0 zs := by
    obtain ⟨fuel, hf⟩ := h0
    rcases open_ints Try.underlying23 Try.underlying5 (by kernel_rfl) hf with ⟨hcs, _⟩ | ⟨x, l, c, zs, hcs, _, hl, hm, hz, _, hcell, hwz⟩
    · simp [Value.cells] at hcs
      obtain ⟨rfl, rfl, rfl⟩ := hcs
      exact ⟨[], .inl ⟨rfl, rfl, rfl, rfl⟩⟩
    · simp [Value.cells] at hcs
      obtain ⟨rfl, rfl, rfl⟩ := hcs
      exact ⟨zs, .inr ⟨_, rfl, hl, hm, by simpa using hz, hcell, hwz⟩⟩
  obtain ⟨a1, rfl, rfl, rfl, w1⟩ := open_int Try.underlying65 (hval 1 65 v1 rfl rfl) h1
  obtain ⟨a2, rfl, rfl, rfl, w2⟩ := open_int Try.underlying50 (hval 2 50 v2 rfl rfl) h2
  clear hA0 hval0
  refine (walk a0 len0 cap0 z0 a1 a2 W w0 w1 w2).mono fun e W' ⟨he, bel⟩ => ?_
  subst he
  exact ⟨_, rfl, _, _, _, [], _, [], hW', trodAll_mk1 (shut_bool Try.underlying4 _), (trodAll_cons_mk (Below.trod laidOut (by kernel_rfl) (of_decide_eq_true (by kernel_rfl)) k0 bel lt0) (trodAll_cons_mk (shut_int Try.underlying65 w1) (trodAll_cons_mk (shut_int Try.underlying50 w2) trodAll_mk0))), rfl, bel.frame _, fun h => by cases h⟩

theorem over : Rows.knotBurstsRow.holds Try.pinned (OpenSpec.ofChange Rows.knotBurstsSpec) :=
  OpenClaim.holds_of_wide 13 Try.f13 rfl rfl rfl rfl rfl rfl rfl ⟨rfl, rfl, rfl, rfl, rfl⟩ rfl rfl rfl rfl rfl (by kernel_rfl) Try.func13 (by kernel_rfl)
    (of_decide_eq_true (by kernel_rfl)) (by unfold Func.isWrapper; first | (rw [if_pos (by decide +kernel)]; kernel_rfl) | (rw [if_neg (by decide +kernel)]; exact ⟨rfl, rfl⟩))
    (fun os started H enc _ => lifted os started H enc)

/-- ████ THE STATEMENT ████ -/
theorem knotBursts_holds : Rows.KnotBurstsSaid := over
#print axioms knotBursts_holds
end Go.Proofs.Ytoglhleljknhcaa.knotBursts
