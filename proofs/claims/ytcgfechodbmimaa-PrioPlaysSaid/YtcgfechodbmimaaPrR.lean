/-
  The document's First.
-/
import Derived.Test.YtcgfechodbmimaaPrC
import Derived.Deep.Cut
namespace Go.Proofs.Ytcgfechodbmimaa
open Go.RowKit
set_option linter.unusedVariables false

set_option maxRecDepth 100000 in
set_option maxHeartbeats 4000000 in
theorem reffirst_any (w : World) (a b : It) : Calls Try.prog 18 #[itv a, itv b] w fun e w' => e = .returned (.bool (decide (Bef a b))) ∧ Below w.heap.size w w' := by
  obtain ⟨i, t, s⟩ := a
  obtain ⟨j, u, r⟩ := b
  unfold itv
  dsimp only
  obtain ⟨x1, hx1⟩ : ∃ x1, x1 = w.alloc (.cells #[.int .u32 i, .int .u8 t, .int .u32 s] 29) := ⟨_, rfl⟩
  obtain ⟨x2, hx2⟩ : ∃ x2, x2 = x1.alloc (.cells #[.int .u32 j, .int .u8 u, .int .u32 r] 29) := ⟨_, rfl⟩
  have hs1 : x1.heap.size = w.heap.size + 1 := by rw [hx1]; simp
  have hb1 : Below w.heap.size w x1 := by rw [hx1]; exact (Below.refl _ w).alloc (Nat.le_refl _) _
  have hb2 : Below x1.heap.size x1 x2 := by rw [hx2]; exact (Below.refl _ x1).alloc (Nat.le_refl _) _
  have g1 : x2.heap[w.heap.size]? = some (.cells #[.int .u32 i, .int .u8 t, .int .u32 s] 29 (0, 0)) := (hb2.block _ (by omega)).trans (by rw [hx1]; exact heap_alloc_new w _)
  have g2 : x2.heap[w.heap.size + 1]? = some (.cells #[.int .u32 j, .int .u8 u, .int .u32 r] 29 (0, 0)) := by rw [hx2, ← hs1]; exact heap_alloc_new x1 _
  have HB2 := hid (hb1.trans (hb2.mono (by omega)))
  have HX1 := hid hx1
  have HX2 := hid hx2
  have c0 : x2.cell? ⟨w.heap.size, 0, none⟩ = some (.int .u32 i) := (cell_of_row x2 _ _ _ _ _ g1).trans rfl
  have c1 : x2.cell? ⟨w.heap.size, 1, none⟩ = some (.int .u8 t) := (cell_of_row x2 _ _ _ _ _ g1).trans rfl
  have c2 : x2.cell? ⟨w.heap.size, 2, none⟩ = some (.int .u32 s) := (cell_of_row x2 _ _ _ _ _ g1).trans rfl
  have d0 : x2.cell? ⟨w.heap.size + 1, 0, none⟩ = some (.int .u32 j) := (cell_of_row x2 _ _ _ _ _ g2).trans rfl
  have d1 : x2.cell? ⟨w.heap.size + 1, 1, none⟩ = some (.int .u8 u) := (cell_of_row x2 _ _ _ _ _ g2).trans rfl
  have d2 : x2.cell? ⟨w.heap.size + 1, 2, none⟩ = some (.int .u32 r) := (cell_of_row x2 _ _ _ _ _ g2).trans rfl
  clear hx1 hx2 hb1 hb2 g1 g2 hs1
  by_cases ht : t = u
  · by_cases hs : s = r
    · have HD := hid (show decide (Bef (i, t, s) (j, u, r)) = decide (i < j) from decide_eq_decide.2 (by unfold Bef; simp only; omega))
      subst ht
      subst hs
      go_enter Try.func18, Try.ntmps18
      go_upto_region 1 with (fail)
      rw [← HX1.out, ← HX2.out]
      go_wp2_with fail
      go_ret
      exact ⟨by rw [HD.out]; rfl, HB2.out⟩
    · have HD := hid (show decide (Bef (i, t, s) (j, u, r)) = decide (s < r) from decide_eq_decide.2 (by unfold Bef; simp only; omega))
      have e1 : (s != r) = true := by simpa using hs
      have e2 : (s == r) = false := by simpa using hs
      subst ht
      clear hs
      go_enter Try.func18, Try.ntmps18
      go_upto_region 1 with (fail)
      rw [← HX1.out, ← HX2.out]
      go_wp2_with fail
      go_ret
      exact ⟨by rw [HD.out]; rfl, HB2.out⟩
  · have HD := hid (show decide (Bef (i, t, s) (j, u, r)) = decide (u < t) from decide_eq_decide.2 (by unfold Bef; simp only; omega))
    have e1 : (t != u) = true := by simpa using ht
    have e2 : (t == u) = false := by simpa using ht
    clear ht
    go_enter Try.func18, Try.ntmps18
    go_upto_region 1 with (fail)
    rw [← HX1.out, ← HX2.out]
    go_wp2_with fail
    go_ret
    exact ⟨by rw [HD.out]; rfl, HB2.out⟩

end Go.Proofs.Ytcgfechodbmimaa
