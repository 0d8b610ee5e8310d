/-
  Contracts of plan: First, Reserve.
-/
import Derived.Test.YtecojmpiaaehlaaPlR
namespace Go.Proofs.Ytecojmpiaaehlaa
open Go.RowKit Go.Shelf
set_option linter.unusedVariables false

/-- A struct's four cells are written, one by one. -/
abbrev set4 (w : World) (g : Nat) (A B C D : Value) : World := (((w.setCell ⟨g, 0, none⟩ A).setCell ⟨g, 1, none⟩ B).setCell ⟨g, 2, none⟩ C).setCell ⟨g, 3, none⟩ D
theorem set4_heap {w : World} {g : Nat} {a b c d : Value} {t : TypeId} (A B C D : Value) (h : w.heap[g]? = some (.cells #[a, b, c, d] t (0, 0))) : (set4 w g A B C D).heap[g]? = some (.cells #[A, B, C, D] t (0, 0)) := by
  have h1 := heap_setCell_arr w g 0 _ _ _ A h
  have h2 := heap_setCell_arr _ g 1 _ _ _ B h1
  have h3 := heap_setCell_arr _ g 2 _ _ _ C h2
  have h4 := heap_setCell_arr _ g 3 _ _ _ D h3
  rw [h4]; simp
theorem set4_other (w : World) (g q : Nat) (A B C D : Value) (h : q ≠ g) : (set4 w g A B C D).heap[q]? = w.heap[q]? :=
  (Below.heap_setCell _ _ _ _ h).trans ((Below.heap_setCell _ _ _ _ h).trans ((Below.heap_setCell _ _ _ _ h).trans (Below.heap_setCell _ _ _ _ h)))
theorem set4_below {n : Nat} {a w : World} (h : Below n a w) (g : Nat) (A B C D : Value) (hg : n ≤ g) : Below n a (set4 w g A B C D) :=
  (((h.setCell (p := ⟨g, 0, none⟩) hg A).setCell (p := ⟨g, 1, none⟩) hg B).setCell (p := ⟨g, 2, none⟩) hg C).setCell (p := ⟨g, 3, none⟩) hg D

set_option maxRecDepth 100000 in
set_option maxHeartbeats 4000000 in
theorem xfirst_any (w : World) (v : Value) (P : List (List Int)) (k len : Int) (h : RdP w v P) (hl : P.length ≤ 1000) (hrl : ∀ r ∈ P, r.length ≤ 1000) :
    Calls Try.prog 14 #[v, .agg #[.int .i64 k, .int .i64 len]] w fun e w' => ∃ u, e = .returned (.agg #[.int .i64 (stA (first (bndP P) k) : Nat), .int .i64 (stR (first (bndP P) k) : Nat), u, .bool (first (bndP P) k).isSome]) ∧ w'.ownsRow w.heap.size 3 1 u (stN (first (bndP P) k)).length ((stN (first (bndP P) k)).map iv) ∧ Below w.heap.size w w' := by
  obtain ⟨a, cap, rfl, hc1, hc2⟩ := h.len
  have HH := hid h
  clear h
  go_enter Try.func14, Try.ntmps14
  go_wp2_with fail
  obtain ⟨w1, hw1⟩ : ∃ w1, w1 = w.alloc (.cells #[.int .i64 k, .int .i64 len] 34) := ⟨_, rfl⟩
  rw [← hw1]
  obtain ⟨w2, hw2⟩ : ∃ w2, w2 = w1.alloc (.cells #[.int .i64 0, .int .i64 0, .slice none 0 0, .bool false] 32) := ⟨_, rfl⟩
  rw [← hw2]
  have hs1 : w1.heap.size = w.heap.size + 1 := by rw [hw1]; simp
  have hs2 : w2.heap.size = w.heap.size + 2 := by rw [hw2]; simp [hs1]
  have hb1 : Below w.heap.size w w1 := by rw [hw1]; exact (Below.refl _ w).alloc (Nat.le_refl _) _
  have hb2 : Below w1.heap.size w1 w2 := by rw [hw2]; exact (Below.refl _ w1).alloc (Nat.le_refl _) _
  have g1 : w2.heap[w.heap.size]? = some (.cells #[.int .i64 k, .int .i64 len] 34 (0, 0)) := (hb2.block _ (by omega)).trans (by rw [hw1]; exact heap_alloc_new w _)
  have g2 : w2.heap[w.heap.size + 1]? = some (.cells #[.int .i64 0, .int .i64 0, .slice none 0 0, .bool false] 32 (0, 0)) := by rw [hw2, ← hs1]; exact heap_alloc_new w1 _
  have hbb := hb1.trans (hb2.mono (by omega))
  have e0 : w2.drew.cell? ⟨w.heap.size, 0, none⟩ = some (.int .i64 k) := (cell_of_row w2 _ _ _ _ _ g1).trans rfl
  have HBB := hid hbb
  have HG2 := hid g2
  have HP2 := hid (show RdP w2.drew (.slice a P.length cap) P from (HH.out.all hbb).all ⟨rfl, rfl, rfl, Nat.le_refl _, fun _ _ => rfl⟩)
  have hsd : w2.drew.heap.size = w.heap.size + 2 := hs2
  clear hw1 hw2 hb1 hb2 g1 g2 hbb hs1
  go_region_held3 (fun w' => w'.cell? ⟨w.heap.size, 0, none⟩ = some (.int .i64 k))
    (first | assumption | exact k1 | go_keep | fail)
    (first
      | (go_at_call 25; refine (taken_any w2.drew _ P HP2.out hl hrl).mono ?_; rintro e w3 ⟨bc, g, rfl, hp3, hb3⟩; have k0 := (hb3.cell (p := ⟨w.heap.size, 0, none⟩) (by rw [hsd]; show w.heap.size < _; omega)).trans e0; have HF3 := hid (first_any w3 w2.drew.heap.size bc g (bndP P) k hp3); rw [bndP_len P] at HF3; have HB3 := hid hb3; have hs3 := hb3.size; clear hp3 hb3)
      | (go_at_call 26; refine (HF3.out).mono ?_; rintro e w4 ⟨u, rfl, ho, hb4⟩; have k1 := (hb4.cell (p := ⟨w.heap.size, 0, none⟩) (by show w.heap.size < _; omega)).trans k0; have g4 := ((hb4.block (w.heap.size + 1) (by omega)).trans (HB3.out.block (w.heap.size + 1) (by rw [hsd]; omega))).trans HG2.out; have m0 : w4.cell? ⟨w.heap.size + 1, 0, none⟩ = some (.int .i64 0) := (cell_of_row w4 _ _ _ _ _ g4).trans rfl; have m1 : w4.cell? ⟨w.heap.size + 1, 1, none⟩ = some (.int .i64 0) := (cell_of_row w4 _ _ _ _ _ g4).trans rfl; have m2 : w4.cell? ⟨w.heap.size + 1, 2, none⟩ = some (.slice none 0 0) := (cell_of_row w4 _ _ _ _ _ g4).trans rfl; have m3 : w4.cell? ⟨w.heap.size + 1, 3, none⟩ = some (.bool false) := (cell_of_row w4 _ _ _ _ _ g4).trans rfl; have f0 : w4.frozen? ⟨w.heap.size + 1, 0, none⟩ = false := frozen_of_row _ _ _ _ _ g4; have f1 : w4.frozen? ⟨w.heap.size + 1, 1, none⟩ = false := frozen_of_row _ _ _ _ _ g4; have f2 : w4.frozen? ⟨w.heap.size + 1, 2, none⟩ = false := frozen_of_row _ _ _ _ _ g4; have f3 : w4.frozen? ⟨w.heap.size + 1, 3, none⟩ = false := frozen_of_row _ _ _ _ _ g4; obtain ⟨ua, uc, ex, hu1, hu2⟩ := owns_slice ho; subst ex; have HO := hid ho; have HB4 := hid hb4; have HG4 := hid g4; clear ho hb4 g4)
      | fail)
  go_wp2
  refine bodyPost_ret (results_cell_row (P := Try.prog) rfl _ _ (w.heap.size + 1) 32 _ (0, 0) _ rfl (set4_heap _ _ _ _ HG4.out) Try.underlying32 rfl (by kernel_rfl)) rfl ?_
  have hs3' : w2.drew.heap.size ≤ w3.heap.size := hs3
  refine ⟨_, rfl, ?_, set4_below ((HBB.out.drew.trans (HB3.out.mono (by omega))).trans (HB4.out.mono (by omega))) _ _ _ _ _ (by omega)⟩
  exact owns_base (owns_by HO.out fun b hb => set4_other _ _ _ _ _ _ _ (by have := (World.ownsRow.lt HO.out b hb).1; omega)) (by omega)

end Go.Proofs.Ytecojmpiaaehlaa
