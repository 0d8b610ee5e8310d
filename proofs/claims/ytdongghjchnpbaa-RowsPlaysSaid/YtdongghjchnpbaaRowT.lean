/-
  Contracts: New, Copy.
-/
import Derived.Test.YtdongghjchnpbaaRowR
import Derived.Laws.Tables
namespace Go.Proofs.Ytdongghjchnpbaa
open Go.RowKit Go.Shelf
set_option linter.unusedVariables false

theorem new_no (w : World) (r n : Int) (h : r < 1 ∨ 8 < r ∨ n < 1 ∨ 16 < n) :
    Calls Try.prog 10 #[.int .i64 r, .int .i64 n] w fun e w' => e = .returned (.tuple #[.pointer none, .int .i64 1]) ∧ w = w' := by
  by_cases h1 : r < 1
  · have d1 : decide (r < 1) = true := by simpa using h1
    clear h h1
    go_enter Try.func10, Try.ntmps10
    go_wp2
    go_ret2
    exact ⟨rfl, rfl⟩
  have d1 : decide (r < 1) = false := by simpa using h1
  by_cases h2 : 8 < r
  · have d2 : decide (8 < r) = true := by simpa using h2
    clear h h1 h2
    go_enter Try.func10, Try.ntmps10
    go_wp2
    go_ret2
    exact ⟨rfl, rfl⟩
  have d2 : decide (8 < r) = false := by simpa using h2
  by_cases h3 : n < 1
  · have d3 : decide (n < 1) = true := by simpa using h3
    clear h h1 h2 h3
    go_enter Try.func10, Try.ntmps10
    go_wp2
    go_ret2
    exact ⟨rfl, rfl⟩
  have d3 : decide (n < 1) = false := by simpa using h3
  have d4 : decide (16 < n) = true := by simp; omega
  clear h h1 h2 h3
  go_enter Try.func10, Try.ntmps10
  go_wp2
  go_ret2
  exact ⟨rfl, rfl⟩

theorem mx0_cells (r n : Nat) : (Try.prog.built 89 [(0, .int .i64 r), (1, .int .i64 n)]) = some (mx0 r n).cells.toArray := by kernel_rfl

set_option maxRecDepth 100000 in
theorem new_yes (w : World) (r n : Nat) (h1 : 1 ≤ r) (h2 : r ≤ 8) (h3 : 1 ≤ n) (h4 : n ≤ 16) :
    Calls Try.prog 10 #[.int .i64 r, .int .i64 n] w fun e w' => e = .returned (.tuple #[.pointer (some ⟨w.heap.size, 0, none⟩), .int .i64 0]) ∧ MxAt w' w.heap.size (mx0 r n) ∧ Below w.heap.size w w' := by
  have d1 : decide ((r : Int) < 1) = false := by simp; omega
  have d2 : decide ((8 : Int) < (r : Int)) = false := by simp; omega
  have d3 : decide ((n : Int) < 1) = false := by simp; omega
  have d4 : decide ((16 : Int) < (n : Int)) = false := by simp; omega
  have HB := hid (mx0_cells r n)
  go_enter Try.func10, Try.ntmps10
  go_wp2_with (first
    | (refine wpList_build rfl 89 _ rfl (by rw [show ((#[(0, Operand.tmp 20), (1, Operand.tmp 21)] : Array (Nat × Operand)).map _).toList = [(0, Value.int .i64 r), (1, Value.int .i64 n)] from rfl, HB.out]; rfl) ?_; rw [show ((#[(0, Operand.tmp 20), (1, Operand.tmp 21)] : Array (Nat × Operand)).map _).toList = [(0, Value.int .i64 r), (1, Value.int .i64 n)] from rfl, HB.out, Option.getD_some])
    | fail)
  go_ret2
  exact ⟨rfl, ⟨heap_alloc_new w _, h1, h2, h3, h4, fun _ => by show (0 : Nat) < 4294967296; omega⟩, (Below.refl _ _).alloc (Nat.le_refl _) _⟩

theorem copy_nil (w : World) :
    Calls Try.prog 12 #[.pointer none] w fun e w' => e = .returned (.pointer none) ∧ w = w' := by
  go_enter Try.func12, Try.ntmps12
  go_wp2
  go_ret
  exact ⟨rfl, rfl⟩

theorem Mx.cells_one (m : Mx) : m.cells.toArray.all (·.oneCell') = true := by
  rw [List.all_toArray, List.all_eq_true]
  intro v hv
  unfold Mx.cells at hv
  simp only [List.mem_append, List.mem_cons, List.mem_map] at hv
  rcases hv with (rfl | rfl | ⟨_, _, rfl⟩) | ⟨_, _, rfl⟩ <;> rfl

theorem info81 : (Try.prog.info? 89).map (·.size) = some 146 := by kernel_rfl
set_option maxRecDepth 100000 in
theorem zc81 : Try.zeroCells89.size = 146 := by kernel_rfl

theorem copy_any (w : World) (b : Nat) (m : Mx) (h : MxAt w b m) :
    Calls Try.prog 12 #[.pointer (some ⟨b, 0, none⟩)] w fun e w' => e = .returned (.pointer (some ⟨w.heap.size, 0, none⟩)) ∧ MxAt w' w.heap.size m ∧ Below w.heap.size w w' := by
  have HH := hid h
  have HSZ := hid (show (Try.prog.info? 89).map (·.size) = some m.cells.toArray.size by
    rw [List.size_toArray, Mx.cells_length]; exact info81)
  have HZ := hid (show Try.zeroCells89.size = m.cells.toArray.size from
    zc81.trans (show 146 = m.cells.toArray.size by rw [List.size_toArray, Mx.cells_length]))
  have HONE := hid m.cells_one
  clear h
  go_enter Try.func12, Try.ntmps12
  go_wp2_with (first
    | (refine wpList_load_row rfl 89 (.tmp 7) rfl b rfl 89 m.cells.toArray (0, 0) _ HH.out.blk Try.underlying89 rfl HSZ.out ?_)
    | (refine wpList_store_row rfl 89 (.tmp 3) (.tmp 8) rfl w.heap.size m.cells.toArray rfl rfl 89 Try.zeroCells89 (heap_alloc_new w _) HSZ.out HZ.out HONE.out ?_)
    | fail)
  go_ret
  refine ⟨rfl, ⟨?_, HH.out.r1, HH.out.r8, HH.out.n1, HH.out.n16, HH.out.c32⟩, ?_⟩
  · rw [setRow_heap _ _ _ _ _ _ (heap_alloc_new w _)]
  · have hb : Below w.heap.size w (w.alloc (.cells Try.zeroCells89 89)) := (Below.refl _ _).alloc (Nat.le_refl _) _
    exact hb.trans ⟨rfl, rfl, rfl, by simp, fun k hk => setRow_other _ _ _ _ (by omega)⟩

end Go.Proofs.Ytdongghjchnpbaa
