/-
  Every text has its knot, is read out of it again, and comes back untouched: quadrillelaw02.KnotTies returns true for every input, without any condition.
  (The frame behind the walk is the guide's shell.)
-/
import Derived.Test.YtoglhleljknhcaaRows
import Derived.WalkKit
import Derived.Test.YtoglhleljknhcaaTurn
import Derived.Test.YtoglhleljknhcaaRefTie
import Derived.Test.YtoglhleljknhcaaSpare
import Derived.Test.YtoglhleljknhcaaTie
import Derived.ProofKit
import Derived.OpenShut
import Derived.ShutString
import Derived.ChangeOld
import Derived.Below
namespace Go.Proofs.Ytoglhleljknhcaa.knotTies
open Go.ChangeShapes Go.WideShapes Go.ChangeAt Go.RowKit
open Go.ChangeMaps (open_string shut_string)
set_option linter.unusedVariables false

theorem own : ownKnob Try.prog.godebug = none := by kernel_rfl
theorem laidOut : laidOutB Try.prog = true := by kernel_rfl

set_option maxRecDepth 100000 in
set_option maxHeartbeats 1000000 in
theorem walk (a0 : Option Addr) (len0 cap0 : Nat) (z0 : List Int) (w : World) (w0 : IsRow .u8 w a0 len0 cap0 z0) :
    Calls Try.prog 10 #[.slice a0 len0 cap0] w fun e w' => e = .returned (.bool true) ∧ Below w.heap.size w w' := by
  obtain ⟨hb1, hb2, hb3⟩ := w0.bounds
  clear hb3
  by_cases h6 : len0 ≤ 600
  · obtain ⟨l, hl, hrd⟩ := w0.rd len0 (by omega)
    have hsm := hid (show l.length ≤ 600 by omega)
    have hu1 := hid (Knot.uerr_knot l (by omega))
    have hu2 := hid (Knot.utext_knot l (by omega))
    have hlen := hid (Knot.knot_length l)
    clear hl w0
    go_enter Try.func10, Try.ntmps10
    go_wp2_with fail
    refine (awake2_any w).mono ?_
    rintro e w1 ⟨rfl, hb1⟩
    go_wp2_with fail
    refine (spare_any _ l w1 (hrd.below hb1) (by have := hsm.out; omega)).mono ?_
    rintro e w2 ⟨qv, rfl, hsp, hb2⟩
    have hA2 := hb1.trans (hb2.mono hb1.size)
    go_wp2_with fail
    refine (tie_any qv l _ hsp.rd (by have := hsm.out; omega)).mono ?_
    rintro e w3 ⟨kv, rfl, hk3, hb3⟩
    have hA3 := hA2.trans (hb3.mono hA2.size)
    go_wp2_with fail
    refine (reftie_any _ l _ (hrd.below hA3) (by have := hsm.out; omega)).mono ?_
    rintro e w4 ⟨xv, rfl, hx4, hb4⟩
    have hA4 := hA3.trans (hb4.mono hA3.size)
    have hk4 := hk3.below hb4
    go_wp2_with fail
    refine (untie_any kv (Knot.knot l) _ hk4.rd (by rw [hlen.out]; have := hsm.out; omega)).mono ?_
    rintro e w5 ⟨uv, rfl, hu5, hb5⟩
    rw [hu1.out]
    rw [hu2.out] at hu5
    have hA5 := hA4.trans (hb5.mono hA4.size)
    go_wp2_with fail
    refine (same_any kv xv _ _ _ (hk4.below hb5).rd (hx4.below hb5).rd).mono ?_
    rintro e w6 ⟨rfl, rfl⟩
    rw [beq_self_eq_true]
    go_wp2_with fail
    refine (kept_any qv _ l _ _ (((hsp.below hb3).below hb4).below hb5) (hrd.below hA5) (by have := hsm.out; omega)).mono ?_
    rintro e w7 ⟨rfl, rfl⟩
    go_wp2_with fail
    refine (same_any uv _ l l _ hu5.rd (hrd.below hA5)).mono ?_
    rintro e w8 ⟨rfl, rfl⟩
    rw [beq_self_eq_true]
    go_wp2
    go_ret
    exact ⟨rfl, hA5⟩
  · obtain ⟨l, hl, hrd⟩ := w0.rd 600 (by omega)
    have hsm := hid (show l.length ≤ 600 by omega)
    have hu1 := hid (Knot.uerr_knot l (by omega))
    have hu2 := hid (Knot.utext_knot l (by omega))
    have hlen := hid (Knot.knot_length l)
    clear hl w0
    go_enter Try.func10, Try.ntmps10
    go_wp2_with fail
    refine (awake2_any w).mono ?_
    rintro e w1 ⟨rfl, hb1⟩
    go_wp2_with fail
    refine (spare_any _ l w1 (hrd.below hb1) (by have := hsm.out; omega)).mono ?_
    rintro e w2 ⟨qv, rfl, hsp, hb2⟩
    have hA2 := hb1.trans (hb2.mono hb1.size)
    go_wp2_with fail
    refine (tie_any qv l _ hsp.rd (by have := hsm.out; omega)).mono ?_
    rintro e w3 ⟨kv, rfl, hk3, hb3⟩
    have hA3 := hA2.trans (hb3.mono hA2.size)
    go_wp2_with fail
    refine (reftie_any _ l _ (hrd.below hA3) (by have := hsm.out; omega)).mono ?_
    rintro e w4 ⟨xv, rfl, hx4, hb4⟩
    have hA4 := hA3.trans (hb4.mono hA3.size)
    have hk4 := hk3.below hb4
    go_wp2_with fail
    refine (untie_any kv (Knot.knot l) _ hk4.rd (by rw [hlen.out]; have := hsm.out; omega)).mono ?_
    rintro e w5 ⟨uv, rfl, hu5, hb5⟩
    rw [hu1.out]
    rw [hu2.out] at hu5
    have hA5 := hA4.trans (hb5.mono hA4.size)
    go_wp2_with fail
    refine (same_any kv xv _ _ _ (hk4.below hb5).rd (hx4.below hb5).rd).mono ?_
    rintro e w6 ⟨rfl, rfl⟩
    rw [beq_self_eq_true]
    go_wp2_with fail
    refine (kept_any qv _ l _ _ (((hsp.below hb3).below hb4).below hb5) (hrd.below hA5) (by have := hsm.out; omega)).mono ?_
    rintro e w7 ⟨rfl, rfl⟩
    go_wp2_with fail
    refine (same_any uv _ l l _ hu5.rd (hrd.below hA5)).mono ?_
    rintro e w8 ⟨rfl, rfl⟩
    rw [beq_self_eq_true]
    go_wp2
    go_ret
    exact ⟨rfl, hA5⟩

/-! ### THE ROW's STEP: WRITTEN OUT: LEAVE IT -/
set_option maxRecDepth 100000 in
theorem lifted (os : Os) (started : os.Started) (H : Type) (enc : TypeId × Value → H) :
    ReturnsInHanded {} Try.checked os 10 .any (Rows.knotTiesSpec.pre6 enc Try.prog Try.f10 Rows.knotTiesRow.domain false) (Rows.knotTiesSpec.post enc Try.prog Try.f10 false true false false) := by
  refine returnsInHanded_of_change (C := Try.checked) own started (by kernel_rfl) Try.func10
    (ChangeSpec.witness6 (enc := enc) (C := Try.checked) false ⟨#[], #[.slice none 0 0], []⟩ 8 (by kernel_rfl) (by kernel_rfl) (by kernel_rfl) (by kernel_rfl)) ?_
  intro W base args ds gs before hval0 hW hcnd _
  have hval : ∀ (j : Nat) t v, Try.f10.params[j]? = some t → args[j]? = some v → Value.okWide Try.prog W .any base t v := hval0
  have hW' := hW
  obtain ⟨p, q, hA0, hV, rfl, hfz, hnd⟩ := hW
  have hA : DataW.TrodAll enc Try.prog W 0 (fun _ => true) true Try.f10.params.toList args.toList ds p := hA0
  rw [Try.params10] at hA hval
  obtain ⟨v0, vs0, d0, ds0, p0, q0, hargs, rfl, rfl, h0, r0⟩ := trodAll_cons hA
  obtain ⟨rfl, rfl, rfl⟩ := trodAll_nil r0
  obtain rfl : args = #[v0] := by cases args; simp_all
  obtain ⟨rfl, rfl⟩ := trodVars_none hV
  obtain ⟨a0, len0, cap0, rfl⟩ := okWide_slice Try.underlying23 (hval 0 23 v0 rfl rfl)
  have k0 := h0
  have lt0 : ∀ x ∈ p0, x.block < W.heap.size := by obtain ⟨m, hm⟩ := k0; exact DataW.trod_lt m _ _ _ hm
  obtain ⟨z0, w0⟩ : ∃ zs, IsRow .u8 W a0 len0 cap0 zs := by
    obtain ⟨fuel, hf⟩ := h0
    rcases open_ints Try.underlying23 Try.underlying5 (by kernel_rfl) hf with ⟨hcs, _⟩ | ⟨x, l, c, zs, hcs, _, hl, hm, hz, _, hcell, hwz⟩
    · simp [Value.cells] at hcs
      obtain ⟨rfl, rfl, rfl⟩ := hcs
      exact ⟨[], .inl ⟨rfl, rfl, rfl, rfl⟩⟩
    · simp [Value.cells] at hcs
      obtain ⟨rfl, rfl, rfl⟩ := hcs
      exact ⟨zs, .inr ⟨_, rfl, hl, hm, by simpa using hz, hcell, hwz⟩⟩
  clear hA0 hval0
  refine (walk a0 len0 cap0 z0 W w0).mono fun e W' ⟨he, bel⟩ => ?_
  subst he
  exact ⟨_, rfl, _, _, _, [], _, [], hW', trodAll_mk1 (shut_bool Try.underlying4 _), (trodAll_cons_mk (Below.trod laidOut (by kernel_rfl) (of_decide_eq_true (by kernel_rfl)) k0 bel lt0) trodAll_mk0), rfl, bel.frame _, fun h => by cases h⟩

theorem over : Rows.knotTiesRow.holds Try.pinned (OpenSpec.ofChange Rows.knotTiesSpec) :=
  OpenClaim.holds_of_wide 10 Try.f10 rfl rfl rfl rfl rfl rfl rfl ⟨rfl, rfl, rfl, rfl, rfl⟩ rfl rfl rfl rfl rfl (by kernel_rfl) Try.func10 (by kernel_rfl)
    (of_decide_eq_true (by kernel_rfl)) (by unfold Func.isWrapper; first | (rw [if_pos (by decide +kernel)]; kernel_rfl) | (rw [if_neg (by decide +kernel)]; exact ⟨rfl, rfl⟩))
    (fun os started H enc _ => lifted os started H enc)

/-- ████ THE STATEMENT ████ -/
theorem knotTies_holds : Rows.KnotTiesSaid := over
#print axioms knotTies_holds
end Go.Proofs.Ytoglhleljknhcaa.knotTies
