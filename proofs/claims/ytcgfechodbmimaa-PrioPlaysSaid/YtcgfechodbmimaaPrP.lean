/-
  The Heap's Peek.
-/
import Derived.Test.YtcgfechodbmimaaPrY
namespace Go.Proofs.Ytcgfechodbmimaa
open Go.RowKit Go.ChangeMaps
set_option linter.unusedVariables false
set_option linter.unusedSimpArgs false

set_option maxRecDepth 100000 in
set_option maxHeartbeats 4000000 in
theorem peek11_yes (w : World) (lo b m : Nat) (v : Value) (q : List It) (n : Nat) (h : RwAt w lo b v m q) (hn : q.length = n + 1) :
    Calls Try.prog 23 #[.pointer (some ⟨b, 0, none⟩)] w fun e w' => e = .returned (.tuple #[itv (it q 0), .bool true]) ∧ Below w.heap.size w w' := by
  obtain ⟨w1, hw1⟩ : ∃ w1, w1 = w.alloc (.cells #[.int .u32 0, .int .u8 0, .int .u32 0] 32) := ⟨_, rfl⟩
  have hb1 : Below w.heap.size w w1 := by rw [hw1]; exact (Below.refl _ w).alloc (Nat.le_refl _) _
  have hbox : w1.heap[w.heap.size]? = some (.cells #[.int .u32 0, .int .u8 0, .int .u32 0] 32 (0, 0)) := by rw [hw1]; exact heap_alloc_new w _
  have hR1 := h.below hb1
  have HR1 := hid hR1
  have HB1 := hid hb1
  have HBX := hid hbox
  have HL := hid (fun W hR => by have h1 := len11_any W lo b m v q hR; rw [hn] at h1; exact h1)
  obtain ⟨g, c, rfl, hg1, hg2, hgb, hgm, hc1, hc2⟩ := h.own' (k := 0) (by omega)
  obtain ⟨a0, a1, a2, -, -, -⟩ := hR1.item (k := 0) (by omega)
  have c0 : w1.cell? ⟨b, 0, none⟩ = some (.slice (some ⟨g, 0, none⟩) (n + 1) c) := (cell_of_row w1 _ _ _ _ _ hR1.blk).trans (by rw [hn]; rfl)
  rw [Nat.zero_mul] at a0 a1 a2
  have r0 : w1.cell? ⟨w.heap.size, 0, none⟩ = some (.int .u32 0) := (cell_of_row _ _ _ _ _ _ hbox).trans rfl
  have r1 : w1.cell? ⟨w.heap.size, 1, none⟩ = some (.int .u8 0) := (cell_of_row _ _ _ _ _ _ hbox).trans rfl
  have r2 : w1.cell? ⟨w.heap.size, 2, none⟩ = some (.int .u32 0) := (cell_of_row _ _ _ _ _ _ hbox).trans rfl
  have f0 : w1.frozen? ⟨w.heap.size, 0, none⟩ = false := frozen_of_row _ _ _ _ _ hbox
  have f1 : w1.frozen? ⟨w.heap.size, 1, none⟩ = false := frozen_of_row _ _ _ _ _ hbox
  have f2 : w1.frozen? ⟨w.heap.size, 2, none⟩ = false := frozen_of_row _ _ _ _ _ hbox
  generalize it q 0 = x at *
  obtain ⟨x0, x1, x2⟩ := x
  unfold itv
  dsimp only at *
  clear h hb1 hbox hR1 hn
  go_enter Try.func23, Try.ntmps23
  rw [hw1] at HR1 HBX HB1 c0 a0 a1 a2 r0 r1 r2 f0 f1 f2
  go_wp2_with (first
    | (go_at_call 17; (with_reducible refine (HL.out _ HR1.out).mono ?_); rintro e w2 ⟨rfl, rfl⟩)
    | fail)
  obtain ⟨w4, hw4⟩ : ∃ w4, w4 = w.alloc (.cells #[.int .u32 x0, .int .u8 x1, .int .u32 x2] 32) := ⟨_, rfl⟩
  have hg4 : w4.heap[w.heap.size]? = some (.cells #[.int .u32 x0, .int .u8 x1, .int .u32 x2] 32 (0, 0)) := by rw [hw4]; exact heap_alloc_new w _
  have hb4 : Below w.heap.size w w4 := by rw [hw4]; exact (Below.refl _ w).alloc (Nat.le_refl _) _
  rw [← hw4]
  refine bodyPost_ret (results_cell2' rfl _ _ _ w.heap.size 32 _ (0, 0) _ rfl rfl hg4 Try.underlying32 (by kernel_rfl)) rfl ?_
  exact ⟨rfl, hb4⟩

set_option maxRecDepth 100000 in
set_option maxHeartbeats 4000000 in
theorem peek11_no (w : World) (lo b m : Nat) (v : Value) (h : RwAt w lo b v m []) :
    Calls Try.prog 23 #[.pointer (some ⟨b, 0, none⟩)] w fun e w' => e = .returned (.tuple #[itv (0, 0, 0), .bool false]) ∧ Below w.heap.size w w' := by
  have HL := hid (fun W hR => len11_any W lo b m v [] hR)
  unfold itv
  obtain ⟨w1, hw1⟩ : ∃ w1, w1 = w.alloc (.cells #[.int .u32 0, .int .u8 0, .int .u32 0] 32) := ⟨_, rfl⟩
  have hb1 : Below w.heap.size w w1 := by rw [hw1]; exact (Below.refl _ w).alloc (Nat.le_refl _) _
  have hbox : w1.heap[w.heap.size]? = some (.cells #[.int .u32 0, .int .u8 0, .int .u32 0] 32 (0, 0)) := by rw [hw1]; exact heap_alloc_new w _
  have HR1 := hid (h.below hb1)
  have HB1 := hid hb1
  have HBX := hid hbox
  rw [hw1] at HR1
  clear h hb1 hbox
  go_enter Try.func23, Try.ntmps23
  go_wp2_with (first
    | (go_at_call 17; (with_reducible refine (HL.out _ HR1.out).mono ?_); rintro e w2 ⟨rfl, rfl⟩)
    | fail)
  rw [← hw1]
  refine bodyPost_ret (results_cell2' rfl _ _ _ w.heap.size 32 _ (0, 0) _ rfl rfl HBX.out Try.underlying32 (by kernel_rfl)) rfl ?_
  exact ⟨rfl, HB1.out⟩

end Go.Proofs.Ytcgfechodbmimaa
