/-
  The document's Same of two starts that are alike.
-/
import Derived.Test.YtecojmpiaaehlaaLwC
namespace Go.Proofs.Ytecojmpiaaehlaa
open Go.RowKit Go.Shelf Go.ChangeShapes
set_option linter.unusedVariables false

set_option maxRecDepth 100000 in
set_option maxHeartbeats 2000000 in
theorem same14_any (w : World) (A R : Int) (ok : Bool) (u v : Value) (ns : List Nat) (hu : RdV w u (ns.map iv)) (hv : RdV w v (ns.map iv)) (hl : ns.length ≤ 1000) :
    Calls Try.prog 16 #[.agg #[.int .i64 A, .int .i64 R, u, .bool ok], .agg #[.int .i64 A, .int .i64 R, v, .bool ok]] w fun e w' => e = .returned (.bool true) ∧ Below w.heap.size w w' := by
  obtain ⟨ua, uc, rfl, hu1, hu2⟩ := hu.weak.len
  obtain ⟨va, vc, rfl, hv1, hv2⟩ := hv.weak.len
  rw [List.length_map] at *
  have HU := hid hu
  have HV := hid hv
  clear hu hv
  generalize hln : ns.length = n at *
  have HLN := hid hln
  clear hln
  go_enter Try.func16, Try.ntmps16
  go_wp2_with fail
  obtain ⟨x1, hx1⟩ : ∃ x1, x1 = w.alloc (.cells #[.int .i64 A, .int .i64 R, .slice ua n uc, .bool ok] 27) := ⟨_, rfl⟩
  obtain ⟨x2, hx2⟩ : ∃ x2, x2 = x1.alloc (.cells #[.int .i64 A, .int .i64 R, .slice va n vc, .bool ok] 27) := ⟨_, rfl⟩
  have hs1 : x1.heap.size = w.heap.size + 1 := by rw [hx1]; simp
  have hs2 : x2.heap.size = w.heap.size + 2 := by rw [hx2]; simp [hs1]
  have hb1 : Below w.heap.size w x1 := by rw [hx1]; exact (Below.refl _ w).alloc (Nat.le_refl _) _
  have hb2 : Below x1.heap.size x1 x2 := by rw [hx2]; exact (Below.refl _ x1).alloc (Nat.le_refl _) _
  have g1 : x2.heap[w.heap.size]? = some (.cells #[.int .i64 A, .int .i64 R, .slice ua n uc, .bool ok] 27 (0, 0)) := (hb2.block _ (by omega)).trans (by rw [hx1]; exact heap_alloc_new w _)
  have g2 : x2.heap[w.heap.size + 1]? = some (.cells #[.int .i64 A, .int .i64 R, .slice va n vc, .bool ok] 27 (0, 0)) := by rw [hx2, ← hs1]; exact heap_alloc_new x1 _
  have HB2 := hid (hb1.trans (hb2.mono (by omega)))
  have a0 : x2.cell? ⟨w.heap.size, 0, none⟩ = some (.int .i64 A) := (cell_of_row _ _ _ _ _ _ g1).trans rfl
  have a1 : x2.cell? ⟨w.heap.size, 1, none⟩ = some (.int .i64 R) := (cell_of_row _ _ _ _ _ _ g1).trans rfl
  have a2 : x2.cell? ⟨w.heap.size, 2, none⟩ = some (.slice ua n uc) := (cell_of_row _ _ _ _ _ _ g1).trans rfl
  have a3 : x2.cell? ⟨w.heap.size, 3, none⟩ = some (.bool ok) := (cell_of_row _ _ _ _ _ _ g1).trans rfl
  have b0 : x2.cell? ⟨w.heap.size + 1, 0, none⟩ = some (.int .i64 A) := (cell_of_row _ _ _ _ _ _ g2).trans rfl
  have b1 : x2.cell? ⟨w.heap.size + 1, 1, none⟩ = some (.int .i64 R) := (cell_of_row _ _ _ _ _ _ g2).trans rfl
  have b2 : x2.cell? ⟨w.heap.size + 1, 2, none⟩ = some (.slice va n vc) := (cell_of_row _ _ _ _ _ _ g2).trans rfl
  have b3 : x2.cell? ⟨w.heap.size + 1, 3, none⟩ = some (.bool ok) := (cell_of_row _ _ _ _ _ _ g2).trans rfl
  have HG1 := hid g1
  have HG2 := hid g2
  rw [← hx1, ← hx2]
  clear hx1 hx2 hb1 hb2 g1 g2 hs1
  go_wp2_with fail
  go_loopw [37] (fun i wr => ∃ k : Nat, k ≤ n ∧ i = .int .i64 k ∧ Below x2.heap.size x2 wr) (fun i _ => n - (intOf i).toNat)
  case atStart => exact ⟨0, Nat.zero_le _, rfl, Below.refl _ _⟩
  case round =>
    obtain ⟨k, hk, rfl, hB⟩ := hrel
    have HB := hid hB
    have HB3 := hid (HB2.out.trans (hB.mono (by omega)))
    by_cases hlt : k < n
    · obtain ⟨x, hx⟩ : ∃ x, ns[k]? = some x := ⟨_, List.getElem?_eq_getElem (by rw [HLN.out]; exact hlt)⟩
      obtain ⟨-, gu, ou, rfl, -, hcu⟩ := (HU.out.all HB3.out).at k (iv x) (by rw [List.getElem?_map, hx]; rfl)
      obtain ⟨-, gv, ov, rfl, -, hcv⟩ := (HV.out.all HB3.out).at k (iv x) (by rw [List.getElem?_map, hx]; rfl)
      have cu : wr.cell? ⟨gu, ou + k, none⟩ = some (.int .i64 (x : Int)) := hcu
      have cv : wr.cell? ⟨gv, ov + k, none⟩ = some (.int .i64 (x : Int)) := hcv
      have g1 := (hB.block _ (by omega)).trans HG1.out
      have g2 := (hB.block _ (by omega)).trans HG2.out
      have d2 : wr.cell? ⟨w.heap.size, 2, none⟩ = some (.slice (some ⟨gu, ou, none⟩) n uc) := (cell_of_row _ _ _ _ _ _ g1).trans rfl
      have e2 : wr.cell? ⟨w.heap.size + 1, 2, none⟩ = some (.slice (some ⟨gv, ov, none⟩) n vc) := (cell_of_row _ _ _ _ _ _ g2).trans rfl
      have hki : (k : Int) < (n : Int) := by omega
      clear hcu hcv g1 g2 hB hx
      go_wp2_with fail
      go_quiet (fail)
      go_wp2_with fail
      go_roundw
      case rel => exact ⟨k + 1, hlt, by go_num, below_behind HB.out _⟩
      case measure => simp [intOf]; omega
    · have e : k = n := by omega
      have hki : ¬ (k : Int) < (n : Int) := by omega
      clear hlt hB
      go_wp2
      go_ret
      exact ⟨rfl, HB3.out⟩

end Go.Proofs.Ytecojmpiaaehlaa
