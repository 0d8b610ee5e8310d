/-
  Layer 10: Tick: its contracts.
-/
import Derived.Test.YtjpojlkdogaalaaTalkJ
namespace Go.Proofs.Ytjpojlkdogaalaa
open Go.RowKit
set_option linter.unusedVariables false
set_option linter.unusedSimpArgs false

theorem tick_nil (w : World) :
    Calls Try.prog 16 #[.pointer none] w fun e w' => e = .returned (.slice none 0 0) ∧ w = w' := by
  go_enter Try.func16, Try.ntmps16
  go_wp2
  go_ret
  exact ⟨rfl, rfl⟩

set_option maxHeartbeats 4000000 in
theorem tick_none (base : B9) (b : Nat) (s : Tk) (w : World) (h : TkAt w base b s) (hb : base.n ≤ w.heap.size) (hc : s.clock < 1000000) (hl : s.l.length = 0) :
    Calls Try.prog 16 #[.pointer (some ⟨b, 0, none⟩)] w fun e w' => e = .returned (.slice none 0 0) ∧ TkAt w' base b s.tock ∧ KQ base w w' := by
  obtain ⟨fv, PF, hh⟩ := h
  obtain ⟨fa, fc, efv, _⟩ := hh.shape
  rw [hl] at efv
  subst efv
  have HWR := hid (show IntKind.u64.wrap ((s.clock : Int) + 1) = (s.clock : Int) + 1 by rw [IntKind.wrap_u64]; omega)
  obtain ⟨w1, hw1⟩ : ∃ w1, w1 = w.setCell ⟨b, 6, none⟩ (.int .u64 ((s.clock : Int) + 1)) := ⟨_, rfl⟩
  have hk1 : Keeps (fun k => k = b) w w1 := by rw [hw1]; exact kset _ _ _ _
  have H1 := hid (show TkV w1 base b s.tock (.slice fa 0 fc) PF from hh.head' hk1 (by rw [hw1, heap_setCell_same _ _ _ _ _ _ hh.head]; simp [Tk.tock]) hh.list (Tk.ok_tock hh.ok hc))
  have HK1 := hid (show KQ base w w1 from hh.ktS hk1 (fun k _ e => .inl e) hb)
  have HW1 := hid hw1
  obtain ⟨c0, c1, c2, c3, c4, c5, c6, hf⟩ := hh.cells
  have f6 := hf 6
  have y5 := H1.out.cells.2.2.2.2.2.1
  have y6 : w1.cell? ⟨b, 6, none⟩ = some (.int .u64 ((s.clock : Int) + 1)) := H1.out.cells.2.2.2.2.2.2.1
  have HBS := hid hb
  clear hf hh hk1 hw1 c0 c1 c2 c3 c4 c5
  clear hb hl
  go_enter Try.func16, Try.ntmps16
  go_wp2_with fail
  try rw [HWR.out]
  rw [← HW1.out]
  go_quiet (fail)
  go_wp2
  go_ret
  exact ⟨rfl, ⟨_, _, H1.out.below (below_behind (Below.refl _ _) _)⟩, HK1.out.trans (KQ.of_below (below_behind (Below.refl _ _) _) (Nat.le_trans HBS.out HK1.out.size))⟩

set_option maxHeartbeats 4000000 in
theorem tick_early (base : B9) (b : Nat) (s : Tk) (w : World) (h : TkAt w base b s) (hb : base.n ≤ w.heap.size) (hc : s.clock < 1000000) (hl : 0 < s.l.length) (hd : s.tock.due = false) :
    Calls Try.prog 16 #[.pointer (some ⟨b, 0, none⟩)] w fun e w' => e = .returned (.slice none 0 0) ∧ TkAt w' base b s.tock ∧ KQ base w w' := by
  obtain ⟨fv, PF, hh⟩ := h
  obtain ⟨fa, fc, efv, hc1, hc2⟩ := hh.shape
  subst efv
  rcases owns_shape hh.row with ⟨e0, e1⟩ | ⟨g, gc, eg, _⟩
  · rw [hh.len] at e1; omega
  simp only [Value.slice.injEq] at eg
  obtain ⟨rfl, -, -⟩ := eg
  have HWR := hid (show IntKind.u64.wrap ((s.clock : Int) + 1) = (s.clock : Int) + 1 by rw [IntKind.wrap_u64]; omega)
  obtain ⟨w1, hw1⟩ : ∃ w1, w1 = w.setCell ⟨b, 6, none⟩ (.int .u64 ((s.clock : Int) + 1)) := ⟨_, rfl⟩
  have hk1 : Keeps (fun k => k = b) w w1 := by rw [hw1]; exact kset _ _ _ _
  have H1 := hid (show TkV w1 base b s.tock (.slice (some ⟨g, 0, none⟩) s.l.length fc) PF from hh.head' hk1 (by rw [hw1, heap_setCell_same _ _ _ _ _ _ hh.head]; simp [Tk.tock]) hh.list (Tk.ok_tock hh.ok hc))
  have HK1 := hid (show KQ base w w1 from hh.ktS hk1 (fun k _ e => .inl e) hb)
  have HW1 := hid hw1
  obtain ⟨c0, c1, c2, c3, c4, c5, c6, hf⟩ := hh.cells
  have f6 := hf 6
  have y5 := H1.out.cells.2.2.2.2.2.1
  have y6 : w1.cell? ⟨b, 6, none⟩ = some (.int .u64 ((s.clock : Int) + 1)) := H1.out.cells.2.2.2.2.2.2.1
  obtain ⟨x, r, ex⟩ : ∃ x r, s.l = x :: r := by
    cases e : s.l with
    | nil => rw [e] at hl; cases hl
    | cons x r => exact ⟨x, r, rfl⟩
  have hxt : x.told ≤ s.clock := (hh.ok.2.2.2.2.2 x (by have : x ∈ s.l := by rw [ex]; simp
                                                        exact List.mem_of_mem_drop this)).1
  have hsub : ¬ (x.told + 2 ≤ s.clock + 1) := by
    have e := hd
    unfold Tk.due at e
    rw [show s.tock.l = x :: r from ex] at e
    simpa [Tk.tock] using e
  obtain ⟨y, hy⟩ : ∃ y, PF[0]? = some y := by
    cases PF with
    | nil => rw [hh.len.symm] at hl; cases hl
    | cons y r => exact ⟨y, rfl⟩
  have hyx : y.1 = x := by
    have e := hh.list
    rw [ex] at e
    cases PF with
    | nil => cases hy
    | cons z r =>
      simp only [List.getElem?_cons_zero, Option.some.injEq] at hy
      subst hy
      simp only [List.map_cons, List.cons.injEq] at e
      exact e.1.symm
  have y1 : w1.cell? ⟨g, 1, none⟩ = some (.int .u64 (x.told : Int)) := by
    have := (H1.out.tcell hy).2
    rw [hyx] at this
    simpa using this
  have HSB := hid (show IntKind.u64.wrap ((s.clock : Int) + 1 - (x.told : Int)) = (s.clock : Int) + 1 - (x.told : Int) by rw [IntKind.wrap_u64]; omega)
  have e1 : ((s.l.length : Int) == 0) = false := by rw [beq_eq_false_iff_ne]; omega
  have e2 : (s.clock : Int) + 1 - (x.told : Int) < 2 := by omega
  have e3 : (0 : Int) < (s.l.length : Int) := by omega
  have HBB := hid (Nat.le_trans hb HK1.out.size)
  have hw := HSB.out
  clear hf hh hk1 hw1 c0 c1 c2 c3 c4 c5
  clear hb hl hd hsub ex hyx hy hxt hc hc1 hc2
  go_enter Try.func16, Try.ntmps16
  go_wp2_with fail
  try rw [HWR.out]
  rw [← HW1.out]
  go_quiet (fail)
  go_wp2
  go_ret
  exact ⟨rfl, ⟨_, _, H1.out.below (below_behind (Below.refl _ _) _)⟩, HK1.out.trans (KQ.of_below (below_behind (Below.refl _ _) _) HBB.out)⟩

end Go.Proofs.Ytjpojlkdogaalaa
