/-
  A knot that is cut anywhere is none, and both Next and Untie tell that it is too short: quadrillelaw02.KnotCuts returns true for every input, without any condition.
  (The frame behind the walk is the guide's shell.)
-/
import Derived.Test.YtoglhleljknhcabRows
import Derived.WalkKit
import Derived.Test.YtoglhleljknhcabTurn
import Derived.Test.YtoglhleljknhcabTie
import Derived.ProofKit
import Derived.OpenShut
import Derived.ShutString
import Derived.ChangeOld
import Derived.Below
namespace Go.Proofs.Ytoglhleljknhcab.knotCuts
open Go.ChangeShapes Go.WideShapes Go.ChangeAt Go.RowKit
open Go.ChangeMaps (open_string shut_string)
set_option linter.unusedVariables false

theorem own : ownKnob Try.prog.godebug = none := by kernel_rfl
theorem laidOut : laidOutB Try.prog = true := by kernel_rfl

set_option maxRecDepth 100000 in
set_option maxHeartbeats 1000000 in
theorem walk (a0 : Option Addr) (len0 cap0 : Nat) (z0 : List Int) (a1 : Int) (w : World) (w0 : IsRow .u8 w a0 len0 cap0 z0) (w1 : (Lit.int .u16 a1).wf = true) :
    Calls Try.prog 4 #[.slice a0 len0 cap0, .int .u16 a1] w fun e w' => e = .returned (.bool true) ∧ Below w.heap.size w w' := by
  obtain ⟨hb1, hb2, hb3⟩ := w0.bounds
  obtain ⟨q1, rfl⟩ := Int.eq_ofNat_of_zero_le (show 0 ≤ a1 by have := bounds_u16 w1; omega)
  have hq1 : q1 < 65536 := by have := bounds_u16 w1; omega
  clear w1 hb3
  by_cases h6 : len0 ≤ 300
  · obtain ⟨l, hl, hrd⟩ := w0.rd len0 (by omega)
    have HL := hid hl
    have hkl := hid (show (Knot.knot l).length = len0 + 6 by rw [Knot.knot_length, hl])
    have hcut := hid (show Knot.err ((Knot.knot l).take (q1 % (len0 + 6))) = 2 ∧ Knot.uerr ((Knot.knot l).take (q1 % (len0 + 6))) = 2 from
      ⟨Knot.err_cut l _ (by omega) (by rw [hl]; exact Nat.mod_lt _ (by omega)), Knot.uerr_cut l _ (by omega) (by rw [hl]; exact Nat.mod_lt _ (by omega))⟩)
    obtain ⟨m, hm⟩ : ∃ m, m = q1 % (len0 + 6) := ⟨_, rfl⟩
    have hmk : m ≤ len0 + 6 := by rw [hm]; exact Nat.le_of_lt (Nat.mod_lt _ (by omega))
    have hme : (q1 : Int) % ((len0 : Int) + 6) = (m : Int) := by rw [hm]; simp
    rw [← hm] at hcut
    clear hl w0 hm
    go_enter Try.func4, Try.ntmps4
    go_wp2_with fail
    refine (awake2_any w).mono ?_
    rintro e w1 ⟨rfl, hb1⟩
    go_wp2_with (first
      | (at_builtin; go_must (refine appk rfl (.tmp 15) (.tmp 20) rfl w.heap.size (.slice (some ⟨w1.heap.size, 0, none⟩) 0 0) _ [] l l len0 rfl rfl (Own.empty w1 _ hb1.size) ((hrd.below hb1).alloc _) (by rw [List.length_nil, Nat.zero_add, HL.out]) rfl (by rw [List.length_nil, HL.out]; omega) (by have := hb1.size; simp; omega) ?_); intro ad2 cp2 w2 hown2 hgrow2; have hb2 : Below w.heap.size w w2 := (Own.empty w1 _ hb1.size).grown (hb1.alloc hb1.size _) hgrow2 (Nat.le_refl _) (by have := hb1.size; simp; omega); clear hgrow2)
      | fail)
    refine (tie_any _ l _ hown2.rd (by rw [HL.out]; omega)).mono ?_
    rintro e w3 ⟨kv, rfl, hown3, hb3⟩
    have hb : Below w.heap.size w w3 := hb2.trans (hb3.mono hb2.size)
    obtain ⟨g, cp, rfl, hg, hcp1, hcp2, hpart⟩ : ∃ g cp, kv = .slice (some ⟨g, 0, none⟩) (len0 + 6) cp ∧ w2.heap.size ≤ g ∧ len0 + 6 ≤ cp ∧ cp ≤ 9223372036854775807 ∧ Rd w3 (.slice (some ⟨g, 0, none⟩) m cp) ((Knot.knot l).take m) := by
      rcases hown3.shape with ⟨_, e⟩ | ⟨g, cp, rfl, h1, h2, h3, h4⟩
      · have := hkl.out; rw [e] at this; simp at this
      · unfold maxLen at h4
        refine ⟨g, cp, by rw [hkl.out], h1, by have := hkl.out; omega, by omega, ?_⟩
        have := Rd.part (off := 0) h3 (by omega) (fun j hj => by rw [Nat.zero_add]; exact hown3.cell j hj) 0 m 0 cp (by rw [hkl.out]; omega) rfl rfl
        simpa using this
    clear hb1 hb2 hown2 hown3
    go_wp2_with fail
    refine (next_any _ _ _ hpart (by simp; omega)).mono ?_
    rintro e w4 ⟨tv, rv, rfl, _, _, hb4⟩
    rw [hcut.out.1]
    go_wp2_with fail
    refine (untie_any _ _ _ (hpart.below hb4) (by simp; omega)).mono ?_
    rintro e w5 ⟨uv, rfl, _, hb5⟩
    rw [hcut.out.2]
    go_wp2
    go_ret
    exact ⟨rfl, hb.trans ((hb4.trans (hb5.mono hb4.size)).mono hb.size)⟩
  · obtain ⟨l, hl, hrd⟩ := w0.rd 300 (by omega)
    have HL := hid hl
    have hkl := hid (show (Knot.knot l).length = 306 by rw [Knot.knot_length, hl])
    have hcut := hid (show Knot.err ((Knot.knot l).take (q1 % (306))) = 2 ∧ Knot.uerr ((Knot.knot l).take (q1 % (306))) = 2 from
      ⟨Knot.err_cut l _ (by omega) (by rw [hl]; exact Nat.mod_lt _ (by omega)), Knot.uerr_cut l _ (by omega) (by rw [hl]; exact Nat.mod_lt _ (by omega))⟩)
    obtain ⟨m, hm⟩ : ∃ m, m = q1 % (306) := ⟨_, rfl⟩
    have hmk : m ≤ 306 := by rw [hm]; exact Nat.le_of_lt (Nat.mod_lt _ (by omega))
    have hme : (q1 : Int) % (306) = (m : Int) := by rw [hm]; simp
    rw [← hm] at hcut
    clear hl w0 hm
    go_enter Try.func4, Try.ntmps4
    go_wp2_with fail
    refine (awake2_any w).mono ?_
    rintro e w1 ⟨rfl, hb1⟩
    go_wp2_with (first
      | (at_builtin; go_must (refine appk rfl (.tmp 15) (.tmp 20) rfl w.heap.size (.slice (some ⟨w1.heap.size, 0, none⟩) 0 0) _ [] l l 300 rfl rfl (Own.empty w1 _ hb1.size) ((hrd.below hb1).alloc _) (by rw [List.length_nil, Nat.zero_add, HL.out]) rfl (by rw [List.length_nil, HL.out]; omega) (by have := hb1.size; simp; omega) ?_); intro ad2 cp2 w2 hown2 hgrow2; have hb2 : Below w.heap.size w w2 := (Own.empty w1 _ hb1.size).grown (hb1.alloc hb1.size _) hgrow2 (Nat.le_refl _) (by have := hb1.size; simp; omega); clear hgrow2)
      | fail)
    refine (tie_any _ l _ hown2.rd (by rw [HL.out]; omega)).mono ?_
    rintro e w3 ⟨kv, rfl, hown3, hb3⟩
    have hb : Below w.heap.size w w3 := hb2.trans (hb3.mono hb2.size)
    obtain ⟨g, cp, rfl, hg, hcp1, hcp2, hpart⟩ : ∃ g cp, kv = .slice (some ⟨g, 0, none⟩) (306) cp ∧ w2.heap.size ≤ g ∧ 306 ≤ cp ∧ cp ≤ 9223372036854775807 ∧ Rd w3 (.slice (some ⟨g, 0, none⟩) m cp) ((Knot.knot l).take m) := by
      rcases hown3.shape with ⟨_, e⟩ | ⟨g, cp, rfl, h1, h2, h3, h4⟩
      · have := hkl.out; rw [e] at this; simp at this
      · unfold maxLen at h4
        refine ⟨g, cp, by rw [hkl.out], h1, by have := hkl.out; omega, by omega, ?_⟩
        have := Rd.part (off := 0) h3 (by omega) (fun j hj => by rw [Nat.zero_add]; exact hown3.cell j hj) 0 m 0 cp (by rw [hkl.out]; omega) rfl rfl
        simpa using this
    clear hb1 hb2 hown2 hown3
    go_wp2_with fail
    refine (next_any _ _ _ hpart (by simp; omega)).mono ?_
    rintro e w4 ⟨tv, rv, rfl, _, _, hb4⟩
    rw [hcut.out.1]
    go_wp2_with fail
    refine (untie_any _ _ _ (hpart.below hb4) (by simp; omega)).mono ?_
    rintro e w5 ⟨uv, rfl, _, hb5⟩
    rw [hcut.out.2]
    go_wp2
    go_ret
    exact ⟨rfl, hb.trans ((hb4.trans (hb5.mono hb4.size)).mono hb.size)⟩

/-! ### THE ROW's STEP: WRITTEN OUT: LEAVE IT -/
set_option maxRecDepth 100000 in
theorem lifted (os : Os) (started : os.Started) (H : Type) (enc : TypeId × Value → H) :
    ReturnsInHanded {} Try.checked os 4 .any (Rows.knotCutsSpec.pre6 enc Try.prog Try.f4 Rows.knotCutsRow.domain false) (Rows.knotCutsSpec.post enc Try.prog Try.f4 false true false false) := by
  refine returnsInHanded_of_change (C := Try.checked) own started (by kernel_rfl) Try.func4
    (ChangeSpec.witness6 (enc := enc) (C := Try.checked) false ⟨#[], #[.slice none 0 0, .int .u16 0], []⟩ 8 (by kernel_rfl) (by kernel_rfl) (by kernel_rfl) (by kernel_rfl)) ?_
  intro W base args ds gs before hval0 hW hcnd _
  have hval : ∀ (j : Nat) t v, Try.f4.params[j]? = some t → args[j]? = some v → Value.okWide Try.prog W .any base t v := hval0
  have hW' := hW
  obtain ⟨p, q, hA0, hV, rfl, hfz, hnd⟩ := hW
  have hA : DataW.TrodAll enc Try.prog W 0 (fun _ => true) true Try.f4.params.toList args.toList ds p := hA0
  rw [Try.params4] at hA hval
  obtain ⟨v0, vs0, d0, ds0, p0, q0, hargs, rfl, rfl, h0, r0⟩ := trodAll_cons hA
  obtain ⟨v1, vs1, d1, ds1, p1, q1, rfl, rfl, rfl, h1, r1⟩ := trodAll_cons r0
  obtain ⟨rfl, rfl, rfl⟩ := trodAll_nil r1
  obtain rfl : args = #[v0, v1] := by cases args; simp_all
  obtain ⟨rfl, rfl⟩ := trodVars_none hV
  obtain ⟨a0, len0, cap0, rfl⟩ := okWide_slice Try.underlying22 (hval 0 22 v0 rfl rfl)
  have k0 := h0
  have lt0 : ∀ x ∈ p0, x.block < W.heap.size := by obtain ⟨m, hm⟩ := k0; exact DataW.trod_lt m _ _ _ hm
  obtain ⟨z0, w0⟩ : ∃ zs, IsRow .u8 W a0 len0 cap0 zs := by
    obtain ⟨fuel, hf⟩ := h0
    rcases open_ints Try.underlying22 Try.underlying5 (by kernel_rfl) hf with ⟨hcs, _⟩ | ⟨x, l, c, zs, hcs, _, hl, hm, hz, _, hcell, hwz⟩
    · simp [Value.cells] at hcs
      obtain ⟨rfl, rfl, rfl⟩ := hcs
      exact ⟨[], .inl ⟨rfl, rfl, rfl, rfl⟩⟩
    · simp [Value.cells] at hcs
      obtain ⟨rfl, rfl, rfl⟩ := hcs
      exact ⟨zs, .inr ⟨_, rfl, hl, hm, by simpa using hz, hcell, hwz⟩⟩
  obtain ⟨a1, rfl, rfl, rfl, w1⟩ := open_int Try.underlying23 (hval 1 23 v1 rfl rfl) h1
  clear hA0 hval0
  refine (walk a0 len0 cap0 z0 a1 W w0 w1).mono fun e W' ⟨he, bel⟩ => ?_
  subst he
  exact ⟨_, rfl, _, _, _, [], _, [], hW', trodAll_mk1 (shut_bool Try.underlying4 _), (trodAll_cons_mk (Below.trod laidOut (by kernel_rfl) (of_decide_eq_true (by kernel_rfl)) k0 bel lt0) (trodAll_cons_mk (shut_int Try.underlying23 w1) trodAll_mk0)), rfl, bel.frame _, fun h => by cases h⟩

theorem over : Rows.knotCutsRow.holds Try.pinned (OpenSpec.ofChange Rows.knotCutsSpec) :=
  OpenClaim.holds_of_wide 4 Try.f4 rfl rfl rfl rfl rfl rfl rfl ⟨rfl, rfl, rfl, rfl, rfl⟩ rfl rfl rfl rfl rfl (by kernel_rfl) Try.func4 (by kernel_rfl)
    (of_decide_eq_true (by kernel_rfl)) (by unfold Func.isWrapper; first | (rw [if_pos (by decide +kernel)]; kernel_rfl) | (rw [if_neg (by decide +kernel)]; exact ⟨rfl, rfl⟩))
    (fun os started H enc _ => lifted os started H enc)

/-- ████ THE STATEMENT ████ -/
theorem knotCuts_holds : Rows.KnotCutsSaid := over
#print axioms knotCuts_holds
end Go.Proofs.Ytoglhleljknhcab.knotCuts
