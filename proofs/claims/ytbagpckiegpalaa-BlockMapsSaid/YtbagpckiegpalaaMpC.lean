/-
  Layer 6: a map of three places, as the document's example makes it.
-/
import Derived.Test.YtbagpckiegpalaaBlkH
import Derived.Test.YtbagpckiegpalaaAppR
import Derived.BigQuiet
namespace Go.Proofs.Ytbagpckiegpalaa
open Go.RowKit
set_option linter.unusedVariables false
set_option linter.unusedSimpArgs false

/-- A map of three places with one run of free ones. -/
structure MC (w : World) (lo b g : Nat) (left : Int) (rf ru : Int) : Prop where
  map : w.heap[b]? = some (.cells #[.int .i64 3, .int .i64 left, .slice (some ⟨g, 0, none⟩) 1 1] 114 (0, 0))
  run : w.heap[g]? = some (.cells #[.int .i64 rf, .int .i64 ru] 116 (0, 0))
  lob : lo ≤ b
  log : lo ≤ g

theorem MC.below {w w' : World} {lo b g : Nat} {left rf ru : Int} (h : MC w lo b g left rf ru) (hb : Below w.heap.size w w') : MC w' lo b g left rf ru :=
  ⟨(hb.block _ (Array.getElem?_eq_some_iff.1 h.map).1).trans h.map, (hb.block _ (Array.getElem?_eq_some_iff.1 h.run).1).trans h.run, h.lob, h.log⟩

theorem MC.cells {w : World} {lo b g : Nat} {left rf ru : Int} (h : MC w lo b g left rf ru) :
    (w.cell? ⟨b, 0, none⟩ = some (.int .i64 3) ∧ w.cell? ⟨b, 1, none⟩ = some (.int .i64 left) ∧ w.cell? ⟨b, 2, none⟩ = some (.slice (some ⟨g, 0, none⟩) 1 1) ∧ w.cell? ⟨g, 0, none⟩ = some (.int .i64 rf) ∧ w.cell? ⟨g, 1, none⟩ = some (.int .i64 ru)) ∧
    w.frozen? ⟨b, 0, none⟩ = false ∧ w.frozen? ⟨b, 1, none⟩ = false ∧ w.frozen? ⟨b, 2, none⟩ = false ∧ w.frozen? ⟨g, 0, none⟩ = false ∧ w.frozen? ⟨g, 1, none⟩ = false :=
  ⟨⟨(cell_of_row w _ _ _ _ _ h.map).trans rfl, (cell_of_row w _ _ _ _ _ h.map).trans rfl, (cell_of_row w _ _ _ _ _ h.map).trans rfl, (cell_of_row w _ _ _ _ _ h.run).trans rfl, (cell_of_row w _ _ _ _ _ h.run).trans rfl⟩,
    frozen_of_row _ _ _ _ _ h.map, frozen_of_row _ _ _ _ _ h.map, frozen_of_row _ _ _ _ _ h.map, frozen_of_row _ _ _ _ _ h.run, frozen_of_row _ _ _ _ _ h.run⟩

set_option maxHeartbeats 1000000 in
theorem newmap3 (w : World) : Calls Try.prog 32 #[.int .i64 3] w fun e w' => ∃ b g, e = .returned (.pointer (some ⟨b, 0, none⟩)) ∧ MC w' w.heap.size b g 3 0 3 ∧ Below w.heap.size w w' := by
  go_enter Try.func32, Try.ntmps32
  go_wp2_with fail
  go_ret
  have hs : (w.alloc (.cells #[.int .i64 0, .int .i64 3] 116)).heap.size = w.heap.size + 1 := by
    show (w.heap.push _).size = _
    simp
  have hb1 : Below w.heap.size w (w.alloc (.cells #[.int .i64 0, .int .i64 3] 116)) := (Below.refl _ w).alloc (Nat.le_refl _) _
  refine ⟨w.heap.size + 1, w.heap.size, rfl, ⟨?_, ?_, Nat.le_succ _, Nat.le_refl _⟩, hb1.alloc hb1.size _⟩
  · rw [← hs]; exact heap_alloc_new _ _
  · rw [heap_alloc_old _ _ (by omega)]; exact heap_alloc_new _ _

set_option maxHeartbeats 1000000 in
theorem left_any (w : World) (lo b g : Nat) (left rf ru : Int) (h : MC w lo b g left rf ru) : Calls Try.prog 36 #[.pointer (some ⟨b, 0, none⟩)] w fun e w' => e = .returned (.int .i64 left) ∧ w = w' := by
  obtain ⟨⟨c0, c1, c2, c3, c4⟩, f0, f1, f2, f3, f4⟩ := h.cells
  go_enter Try.func36, Try.ntmps36
  go_wp2_with fail
  go_ret
  exact ⟨rfl, rfl⟩

set_option maxHeartbeats 1000000 in
theorem hit_any (w : World) (b g p q lo : Nat) (left rf ru i : Int) (h : MC w lo b g left rf ru) (hp : w.cell? ⟨p, 0, none⟩ = some (.pointer (some ⟨b, 0, none⟩))) (hq : w.cell? ⟨q, 0, none⟩ = some (.int .i64 i)) :
    Calls Try.prog 60 #[.int .i64 0, .pointer (some ⟨p, 0, none⟩), .pointer (some ⟨q, 0, none⟩)] w fun e w' => e = .returned (.bool (decide (i < ru))) ∧ Below w.heap.size w w' := by
  obtain ⟨⟨c0, c1, c2, c3, c4⟩, f0, f1, f2, f3, f4⟩ := h.cells
  go_enter Try.func60, Try.ntmps60
  go_wp2_with fail
  go_quiet (fail)
  go_wp2_with fail
  go_ret
  refine ⟨?_, below_behindB (Below.refl _ w) _⟩
  simp

set_option maxHeartbeats 1000000 in
theorem search_one (w : World) (b g p q lo : Nat) (left rf ru i : Int) (h : MC w lo b g left rf ru) (hp : w.cell? ⟨p, 0, none⟩ = some (.pointer (some ⟨b, 0, none⟩))) (hq : w.cell? ⟨q, 0, none⟩ = some (.int .i64 i)) (hi : i < ru) :
    Calls Try.prog 59 #[.int .i64 1, .func (.func 60) #[] #[.pointer (some ⟨p, 0, none⟩), .pointer (some ⟨q, 0, none⟩)]] w fun e w' => e = .returned (.int .i64 0) ∧ Below w.heap.size w w' := by
  have hlp := World.block_lt_of_cell? _ _ hp
  have hlq := World.block_lt_of_cell? _ _ hq
  have HH := hid (fun W (hW : Below w.heap.size w W) => hit_any W b g p q lo left rf ru i (h.below hW) ((hW.cell (p := ⟨p, 0, none⟩) hlp).trans hp) ((hW.cell (p := ⟨q, 0, none⟩) hlq).trans hq))
  have HI := hid hi
  clear h hp hq hi hlp hlq
  go_enter Try.func59, Try.ntmps59
  go_wp2_with fail
  go_loopw [5, 6] (fun x y wr => x = .int .i64 0 ∧ (y = .int .i64 1 ∨ y = .int .i64 0) ∧ Below w.heap.size w wr) (fun _ y _ => (intOf y).toNat)
  case atStart => exact ⟨rfl, .inl rfl, Below.refl _ _⟩
  case round =>
    obtain ⟨rfl, rfl | rfl, hb⟩ := hrel
    · have HC := hid (HH.out wr hb)
      have HB := hid hb
      clear hb
      go_wp2_with (first
        | (refine (HC.out).mono ?_; rintro e w2 ⟨rfl, hb2⟩; rw [decide_eq_true HI.out])
        | fail)
      go_roundw
      case rel => exact ⟨rfl, .inr rfl, HB.out.trans (hb2.mono HB.out.size)⟩
      case measure => simp [intOf]
    · have HB := hid hb
      clear hb
      go_wp2_with fail
      go_ret
      exact ⟨rfl, HB.out⟩

set_option maxHeartbeats 2000000 in
theorem find_one (w : World) (b g lo : Nat) (left rf ru i : Int) (h : MC w lo b g left rf ru) (hi : i < ru) :
    Calls Try.prog 52 #[.pointer (some ⟨b, 0, none⟩), .int .i64 i] w fun e w' => e = .returned (.tuple #[.int .i64 0, .bool (decide (rf ≤ i))]) ∧ Below w.heap.size w w' := by
  obtain ⟨w1, hw1⟩ : ∃ z, z = (w.alloc (.cells #[.pointer (some ⟨b, 0, none⟩)] 71)).alloc (.cells #[.int .i64 i] 3) := ⟨_, rfl⟩
  have hs : (w.alloc (.cells #[.pointer (some ⟨b, 0, none⟩)] 71)).heap.size = w.heap.size + 1 := by
    show (w.heap.push _).size = _
    simp
  have hb0 : Below w.heap.size w (w.alloc (.cells #[.pointer (some ⟨b, 0, none⟩)] 71)) := (Below.refl _ w).alloc (Nat.le_refl _) _
  have hb1 : Below w.heap.size w w1 := by rw [hw1]; exact hb0.alloc hb0.size _
  have g0 : w1.heap[w.heap.size]? = some (.cells #[.pointer (some ⟨b, 0, none⟩)] 71 (0, 0)) := by
    rw [hw1, heap_alloc_old _ _ (by omega)]; exact heap_alloc_new _ _
  have g1 : w1.heap[w.heap.size + 1]? = some (.cells #[.int .i64 i] 3 (0, 0)) := by
    rw [hw1, ← hs]; exact heap_alloc_new _ _
  have H1 := hid (h.below hb1)
  have HS := hid (search_one w1 b g w.heap.size (w.heap.size + 1) lo left rf ru i H1.out ((cell_of_row _ _ _ _ _ _ g0).trans rfl) ((cell_of_row _ _ _ _ _ _ g1).trans rfl) hi)
  have HB1 := hid hb1
  have HG0 := hid g0
  have HG1 := hid g1
  have HW1 := hid hw1
  clear h hi hs hb0 hb1 g0 g1 hw1
  obtain ⟨⟨c0, c1, c2, c3, c4⟩, -, -, -, -, -⟩ := H1.out.cells
  have k0 : w1.cell? ⟨w.heap.size, 0, none⟩ = some (.pointer (some ⟨b, 0, none⟩)) := (cell_of_row _ _ _ _ _ _ HG0.out).trans rfl
  go_enter Try.func52, Try.ntmps52
  go_upto_region 1 with fail
  rw [← HW1.out]
  go_upto_region 2 with (first
    | (go_at_call 59; refine (HS.out).mono ?_; rintro e w2 ⟨rfl, hb2⟩)
    | fail)
  have HB2 := hid (HB1.out.trans (hb2.mono HB1.out.size))
  have H2 := hid (H1.out.below hb2)
  clear c0 c1 c2 c3 c4 k0
  obtain ⟨⟨c0, c1, c2, c3, c4⟩, -, -, -, -, -⟩ := H2.out.cells
  have k0 : w2.cell? ⟨w.heap.size, 0, none⟩ = some (.pointer (some ⟨b, 0, none⟩)) := (cell_of_row _ _ _ _ _ _ ((hb2.block _ (Array.getElem?_eq_some_iff.1 HG0.out).1).trans HG0.out)).trans rfl
  have k1 : w2.cell? ⟨w.heap.size + 1, 0, none⟩ = some (.int .i64 i) := (cell_of_row _ _ _ _ _ _ ((hb2.block _ (Array.getElem?_eq_some_iff.1 HG1.out).1).trans HG1.out)).trans rfl
  clear hb2
  go_quiet (fail)
  go_wp2_with fail
  go_ret2
  exact ⟨rfl, below_behindB HB2.out _⟩

end Go.Proofs.Ytbagpckiegpalaa
