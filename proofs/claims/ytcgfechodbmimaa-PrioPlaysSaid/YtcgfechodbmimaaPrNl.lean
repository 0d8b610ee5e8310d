/-
  A nil heap's calls.
-/
import Derived.Test.YtcgfechodbmimaaPrJ
import Derived.Test.YtcgfechodbmimaaPrP
namespace Go.Proofs.Ytcgfechodbmimaa
open Go.RowKit Go.ChangeMaps
set_option linter.unusedVariables false
set_option linter.unusedSimpArgs false

theorem has11_nil (w : World) (z : Int) : Calls Try.prog 14 #[.pointer none, .int .u32 z] w fun e w' => e = .returned (.bool false) ∧ w = w' := by
  go_enter Try.func14, Try.ntmps14
  go_wp2_with fail
  go_ret
  exact ⟨rfl, rfl⟩

theorem len11_nil (w : World) : Calls Try.prog 17 #[.pointer none] w fun e w' => e = .returned (.int .i64 0) ∧ w = w' := by
  go_enter Try.func17, Try.ntmps17
  go_wp2_with fail
  go_ret
  exact ⟨rfl, rfl⟩

theorem push11_nil (w : World) (x : It) : Calls Try.prog 8 #[.pointer none, itv x] w fun e w' => e = .returned (.int .i64 6) ∧ Below w.heap.size w w' := by
  obtain ⟨x0, x1, x2⟩ := x
  unfold itv
  dsimp only
  have hb := (Below.refl w.heap.size w).alloc (Nat.le_refl _) (.cells #[.int .u32 x0, .int .u8 x1, .int .u32 x2] 32)
  have HB := hid hb
  clear hb
  go_enter Try.func8, Try.ntmps8
  go_wp2_with fail
  go_ret
  exact ⟨rfl, HB.out⟩

theorem remove11_nil (w : World) (z : Int) : Calls Try.prog 11 #[.pointer none, .int .u32 z] w fun e w' => e = .returned (.int .i64 6) ∧ w = w' := by
  have HH := hid (fun w => has11_nil w z)
  go_enter Try.func11, Try.ntmps11
  go_wp2_with (first | (go_at_call 14; (with_reducible refine (HH.out _).mono ?_); rintro e w2 ⟨rfl, rfl⟩) | fail)
  go_ret
  exact ⟨rfl, rfl⟩

theorem change11_nil (w : World) (x : It) : Calls Try.prog 12 #[.pointer none, itv x] w fun e w' => e = .returned (.int .i64 6) ∧ Below w.heap.size w w' := by
  obtain ⟨x0, x1, x2⟩ := x
  unfold itv
  dsimp only
  have hb := (Below.refl w.heap.size w).alloc (Nat.le_refl _) (.cells #[.int .u32 x0, .int .u8 x1, .int .u32 x2] 32)
  have HB := hid hb
  have HH := hid (fun w => has11_nil w x0)
  clear hb
  go_enter Try.func12, Try.ntmps12
  go_wp2_with (first | (go_at_call 14; (with_reducible refine (HH.out _).mono ?_); rintro e w2 ⟨rfl, rfl⟩) | fail)
  go_ret
  exact ⟨rfl, HB.out⟩

theorem change11_no (w : World) (lo b m : Nat) (v : Value) (q : List It) (x : It) (h : RwAt w lo b v m q) (hx : kw x.1) (hk : plc q x.1 = none) :
    Calls Try.prog 12 #[.pointer (some ⟨b, 0, none⟩), itv x] w fun e w' => e = .returned (.int .i64 6) ∧ Below w.heap.size w w' := by
  obtain ⟨x0, x1, x2⟩ := x
  unfold itv
  dsimp only at *
  have hb := (Below.refl w.heap.size w).alloc (Nat.le_refl _) (.cells #[.int .u32 x0, .int .u8 x1, .int .u32 x2] 32)
  have HB := hid hb
  have h1 := has11_any _ lo b m v q x0 (h.below hb) hx
  rw [hk] at h1
  have HH := hid h1
  clear hb h h1 hk hx
  go_enter Try.func12, Try.ntmps12
  go_wp2_with (first | (go_at_call 14; (with_reducible refine (HH.out).mono ?_); rintro e w2 ⟨rfl, rfl⟩) | fail)
  go_ret
  exact ⟨rfl, HB.out⟩

set_option maxRecDepth 100000 in
set_option maxHeartbeats 4000000 in
theorem peek11_nil (w : World) :
    Calls Try.prog 23 #[.pointer none] w fun e w' => e = .returned (.tuple #[itv (0, 0, 0), .bool false]) ∧ Below w.heap.size w w' := by
  have HL := hid (fun W => len11_nil W)
  unfold itv
  obtain ⟨w1, hw1⟩ : ∃ w1, w1 = w.alloc (.cells #[.int .u32 0, .int .u8 0, .int .u32 0] 32) := ⟨_, rfl⟩
  have hb1 : Below w.heap.size w w1 := by rw [hw1]; exact (Below.refl _ w).alloc (Nat.le_refl _) _
  have hbox : w1.heap[w.heap.size]? = some (.cells #[.int .u32 0, .int .u8 0, .int .u32 0] 32 (0, 0)) := by rw [hw1]; exact heap_alloc_new w _
  have HB1 := hid hb1
  have HBX := hid hbox
  clear hb1 hbox
  go_enter Try.func23, Try.ntmps23
  go_wp2_with (first
    | (go_at_call 17; (with_reducible refine (HL.out _).mono ?_); rintro e w2 ⟨rfl, rfl⟩)
    | fail)
  rw [← hw1]
  refine bodyPost_ret (results_cell2' rfl _ _ _ w.heap.size 32 _ (0, 0) _ rfl rfl HBX.out Try.underlying32 (by kernel_rfl)) rfl ?_
  exact ⟨rfl, HB1.out⟩

set_option maxRecDepth 100000 in
set_option maxHeartbeats 4000000 in
theorem pop11_nil (w : World) :
    Calls Try.prog 9 #[.pointer none] w fun e w' => e = .returned (.tuple #[itv (0, 0, 0), .bool false]) ∧ Below w.heap.size w w' := by
  have HL := hid (fun W => len11_nil W)
  unfold itv
  obtain ⟨w1, hw1⟩ : ∃ w1, w1 = w.alloc (.cells #[.int .u32 0, .int .u8 0, .int .u32 0] 32) := ⟨_, rfl⟩
  have hb1 : Below w.heap.size w w1 := by rw [hw1]; exact (Below.refl _ w).alloc (Nat.le_refl _) _
  have hbox : w1.heap[w.heap.size]? = some (.cells #[.int .u32 0, .int .u8 0, .int .u32 0] 32 (0, 0)) := by rw [hw1]; exact heap_alloc_new w _
  have HB1 := hid hb1
  have HBX := hid hbox
  clear hb1
  have r0 : w1.cell? ⟨w.heap.size, 0, none⟩ = some (.int .u32 0) := (cell_of_row _ _ _ _ _ _ hbox).trans rfl
  have r1 : w1.cell? ⟨w.heap.size, 1, none⟩ = some (.int .u8 0) := (cell_of_row _ _ _ _ _ _ hbox).trans rfl
  have r2 : w1.cell? ⟨w.heap.size, 2, none⟩ = some (.int .u32 0) := (cell_of_row _ _ _ _ _ _ hbox).trans rfl
  have f0 : w1.frozen? ⟨w.heap.size, 0, none⟩ = false := frozen_of_row _ _ _ _ _ hbox
  have f1 : w1.frozen? ⟨w.heap.size, 1, none⟩ = false := frozen_of_row _ _ _ _ _ hbox
  have f2 : w1.frozen? ⟨w.heap.size, 2, none⟩ = false := frozen_of_row _ _ _ _ _ hbox
  clear hbox
  go_enter Try.func9, Try.ntmps9
  go_wp2_with (first
    | (go_at_call 17; (with_reducible refine (HL.out _).mono ?_); rintro e w2 ⟨rfl, rfl⟩)
    | fail)
  rw [← hw1]
  refine bodyPost_ret (results_cell2' rfl _ _ _ w.heap.size 32 _ (0, 0) _ rfl rfl HBX.out Try.underlying32 (by kernel_rfl)) rfl ?_
  exact ⟨rfl, HB1.out⟩

end Go.Proofs.Ytcgfechodbmimaa
