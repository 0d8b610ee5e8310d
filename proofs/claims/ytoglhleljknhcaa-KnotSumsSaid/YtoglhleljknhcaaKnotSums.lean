/-
  Of all bytes the sum is what is left of the division, and they come back untouched: quadrillelaw02.KnotSums returns true for every input, without any condition.
  (The frame behind the walk is the guide's shell.)
-/
import Derived.Test.YtoglhleljknhcaaRows
import Derived.WalkKit
import Derived.Test.YtoglhleljknhcaaTurn
import Derived.Test.YtoglhleljknhcaaRefSum
import Derived.Test.YtoglhleljknhcaaSpare
import Derived.ProofKit
import Derived.OpenShut
import Derived.ShutString
import Derived.ChangeOld
import Derived.Below
namespace Go.Proofs.Ytoglhleljknhcaa.knotSums
open Go.ChangeShapes Go.WideShapes Go.ChangeAt Go.RowKit
open Go.ChangeMaps (open_string shut_string)
set_option linter.unusedVariables false

theorem own : ownKnob Try.prog.godebug = none := by kernel_rfl
theorem laidOut : laidOutB Try.prog = true := by kernel_rfl

set_option maxRecDepth 100000 in
set_option maxHeartbeats 1000000 in
theorem walk (a0 : Option Addr) (len0 cap0 : Nat) (z0 : List Int) (w : World) (w0 : IsRow .u8 w a0 len0 cap0 z0) :
    Calls Try.prog 9 #[.slice a0 len0 cap0] w fun e w' => e = .returned (.bool true) ∧ Below w.heap.size w w' := by
  obtain ⟨hb1, hb2, hb3⟩ := w0.bounds
  clear hb3
  by_cases h6 : len0 ≤ 600
  · obtain ⟨l, hl, hrd⟩ := w0.rd len0 (by omega)
    have HL := hid hl
    have hsm := hid (show l.length ≤ 600 by omega)
    clear hl w0
    go_enter Try.func9, Try.ntmps9
    go_wp2_with fail
    refine (spare_any _ l w hrd (by have := hsm.out; omega)).mono ?_
    rintro e w1 ⟨qv, rfl, hsp, hb1⟩
    go_wp2_with fail
    refine (awake2_any w1).mono ?_
    rintro e w2 ⟨rfl, hb2⟩
    have hsp2 := hsp.below hb2
    have hrd2 := (hrd.below hb1).below hb2
    go_wp2_with fail
    refine (sum_any qv l _ hsp2.rd).mono ?_
    rintro e w3 ⟨rfl, rfl⟩
    go_wp2_with fail
    refine (refsum_any _ l _ hrd2 (by have := hsm.out; omega)).mono ?_
    rintro e w3 ⟨rfl, hb3⟩
    have hb := hb1.trans ((hb2.trans (hb3.mono hb2.size)).mono hb1.size)
    go_wp2_with fail
    refine (kept_any qv _ l _ _ (hsp2.below hb3) (hrd2.below hb3) (by have := hsm.out; omega)).mono ?_
    rintro e w4 ⟨rfl, rfl⟩
    go_wp2
    go_ret
    exact ⟨rfl, hb⟩
  · obtain ⟨l, hl, hrd⟩ := w0.rd 600 (by omega)
    have HL := hid hl
    have hsm := hid (show l.length ≤ 600 by omega)
    clear hl w0
    go_enter Try.func9, Try.ntmps9
    go_wp2_with fail
    refine (spare_any _ l w hrd (by have := hsm.out; omega)).mono ?_
    rintro e w1 ⟨qv, rfl, hsp, hb1⟩
    go_wp2_with fail
    refine (awake2_any w1).mono ?_
    rintro e w2 ⟨rfl, hb2⟩
    have hsp2 := hsp.below hb2
    have hrd2 := (hrd.below hb1).below hb2
    go_wp2_with fail
    refine (sum_any qv l _ hsp2.rd).mono ?_
    rintro e w3 ⟨rfl, rfl⟩
    go_wp2_with fail
    refine (refsum_any _ l _ hrd2 (by have := hsm.out; omega)).mono ?_
    rintro e w3 ⟨rfl, hb3⟩
    have hb := hb1.trans ((hb2.trans (hb3.mono hb2.size)).mono hb1.size)
    go_wp2_with fail
    refine (kept_any qv _ l _ _ (hsp2.below hb3) (hrd2.below hb3) (by have := hsm.out; omega)).mono ?_
    rintro e w4 ⟨rfl, rfl⟩
    go_wp2
    go_ret
    exact ⟨rfl, hb⟩

/-! ### THE ROW's STEP: WRITTEN OUT: LEAVE IT -/
set_option maxRecDepth 100000 in
theorem lifted (os : Os) (started : os.Started) (H : Type) (enc : TypeId × Value → H) :
    ReturnsInHanded {} Try.checked os 9 .any (Rows.knotSumsSpec.pre6 enc Try.prog Try.f9 Rows.knotSumsRow.domain false) (Rows.knotSumsSpec.post enc Try.prog Try.f9 false true false false) := by
  refine returnsInHanded_of_change (C := Try.checked) own started (by kernel_rfl) Try.func9
    (ChangeSpec.witness6 (enc := enc) (C := Try.checked) false ⟨#[], #[.slice none 0 0], []⟩ 8 (by kernel_rfl) (by kernel_rfl) (by kernel_rfl) (by kernel_rfl)) ?_
  intro W base args ds gs before hval0 hW hcnd _
  have hval : ∀ (j : Nat) t v, Try.f9.params[j]? = some t → args[j]? = some v → Value.okWide Try.prog W .any base t v := hval0
  have hW' := hW
  obtain ⟨p, q, hA0, hV, rfl, hfz, hnd⟩ := hW
  have hA : DataW.TrodAll enc Try.prog W 0 (fun _ => true) true Try.f9.params.toList args.toList ds p := hA0
  rw [Try.params9] at hA hval
  obtain ⟨v0, vs0, d0, ds0, p0, q0, hargs, rfl, rfl, h0, r0⟩ := trodAll_cons hA
  obtain ⟨rfl, rfl, rfl⟩ := trodAll_nil r0
  obtain rfl : args = #[v0] := by cases args; simp_all
  obtain ⟨rfl, rfl⟩ := trodVars_none hV
  obtain ⟨a0, len0, cap0, rfl⟩ := okWide_slice Try.underlying23 (hval 0 23 v0 rfl rfl)
  have k0 := h0
  have lt0 : ∀ x ∈ p0, x.block < W.heap.size := by obtain ⟨m, hm⟩ := k0; exact DataW.trod_lt m _ _ _ hm
  obtain ⟨z0, w0⟩ : ∃ zs, IsRow .u8 W a0 len0 cap0 zs := by
    obtain ⟨fuel, hf⟩ := h0
    rcases open_ints Try.underlying23 Try.underlying5 (by kernel_rfl) hf with ⟨hcs, _⟩ | ⟨x, l, c, zs, hcs, _, hl, hm, hz, _, hcell, hwz⟩
    · simp [Value.cells] at hcs
      obtain ⟨rfl, rfl, rfl⟩ := hcs
      exact ⟨[], .inl ⟨rfl, rfl, rfl, rfl⟩⟩
    · simp [Value.cells] at hcs
      obtain ⟨rfl, rfl, rfl⟩ := hcs
      exact ⟨zs, .inr ⟨_, rfl, hl, hm, by simpa using hz, hcell, hwz⟩⟩
  clear hA0 hval0
  refine (walk a0 len0 cap0 z0 W w0).mono fun e W' ⟨he, bel⟩ => ?_
  subst he
  exact ⟨_, rfl, _, _, _, [], _, [], hW', trodAll_mk1 (shut_bool Try.underlying4 _), (trodAll_cons_mk (Below.trod laidOut (by kernel_rfl) (of_decide_eq_true (by kernel_rfl)) k0 bel lt0) trodAll_mk0), rfl, bel.frame _, fun h => by cases h⟩

theorem over : Rows.knotSumsRow.holds Try.pinned (OpenSpec.ofChange Rows.knotSumsSpec) :=
  OpenClaim.holds_of_wide 9 Try.f9 rfl rfl rfl rfl rfl rfl rfl ⟨rfl, rfl, rfl, rfl, rfl⟩ rfl rfl rfl rfl rfl (by kernel_rfl) Try.func9 (by kernel_rfl)
    (of_decide_eq_true (by kernel_rfl)) (by unfold Func.isWrapper; first | (rw [if_pos (by decide +kernel)]; kernel_rfl) | (rw [if_neg (by decide +kernel)]; exact ⟨rfl, rfl⟩))
    (fun os started H enc _ => lifted os started H enc)

/-- ████ THE STATEMENT ████ -/
theorem knotSums_holds : Rows.KnotSumsSaid := over
#print axioms knotSums_holds
end Go.Proofs.Ytoglhleljknhcaa.knotSums
