/-
  The document's First.
-/
import Derived.Test.YtecojmpiaaehlaaRfB
namespace Go.Proofs.Ytecojmpiaaehlaa
open Go.RowKit Go.Shelf
set_option linter.unusedVariables false

def bI (s : Option (Nat × Nat)) : Int := match s with
  | none => -1
  | some x => x.1
def rI (s : Option (Nat × Nat)) : Int := match s with
  | none => -1
  | some x => x.2
def mI (m : Option Nat) : Int := match m with
  | none => -1
  | some m => m
theorem RdV.drewN {w : World} {v : Value} {xs : List Value} (h : RdV w v xs) (n : Nat) : RdV (w.drewN n) v xs := h.all ⟨rfl, rfl, rfl, Nat.le_refl _, fun _ _ => rfl⟩
theorem bndP_at {P : List (List Int)} {i : Nat} {r : List Int} (h : P[i]? = some r) : (bndP P)[i]? = some (bndL r) := by
  unfold bndP; rw [List.getElem?_map, h]; rfl
theorem bndP_getD {P : List (List Int)} {i : Nat} {r : List Int} (h : P[i]? = some r) : (bndP P).getD i [] = bndL r := by
  rw [List.getD_eq_getElem?_getD, bndP_at h]; rfl
theorem info_rstart : (Try.prog.info? 27).map (·.size) = some 4 := by kernel_rfl
theorem mkbools (w : World) (n : Nat) (hn : n ≤ 1000) : (Instr.makeSlice 60 (.int .i64 n) (.int .i64 n)).run Try.prog w = .ok (.slice (some ⟨w.heap.size, 0, none⟩) n n) (w.alloc (.cells (List.replicate n (Value.bool false)).toArray 4)) := by
  have hib : (Try.prog.info? 4).map (fun i => (i.zero, i.size, i.bytes)) = some (some (.bool false), 1, 1) := by kernel_rfl
  obtain ⟨i, hi, hz0, hz1, hz2⟩ := info_parts hib
  have := run_makeSlice (P := Try.prog) (w := w) 60 4 i _ Try.underlying60 hi hz0 .i64 .i64 n n (by omega) (Int.le_refl _) (by rw [hz1]; simp; omega) (by rw [hz2]; omega) (by omega)
  rw [this, hz1]
  have e : madeCells (Value.bool false).cells ((n : Int).toNat * 1) = (List.replicate n (Value.bool false)).toArray := by
    apply Array.ext'
    show (madeCells #[Value.bool false] ((n : Int).toNat * 1)).toList = _
    rw [toList_madeCells_one]
    simp
  rw [e]; rfl

/-- The search for the best row, cell by cell. -/
def inS (kn : Nat) (r : List Int) (q : Nat) (s : Option (Nat × Nat)) (j : Nat) : Option (Nat × Nat) := ((bndL r).take j).foldl (cellS kn (bndL r) q) s
theorem inS_succ {kn : Nat} {r : List Int} {q : Nat} {s : Option (Nat × Nat)} {j : Nat} {x : Int} (h : r[j]? = some x) : inS kn r q s (j + 1) = cellS kn (bndL r) q (inS kn r q s j) (bnd x) := by
  unfold inS; rw [bndL_take h, List.foldl_append]; rfl
theorem inS_all (kn : Nat) (r : List Int) (q : Nat) (s : Option (Nat × Nat)) : inS kn r q s r.length = rowS kn s (bndL r) q := by
  unfold inS; rw [← bndL_len, List.take_length]; exact cells_row _ _ _ _

set_option maxRecDepth 100000 in
set_option maxHeartbeats 8000000 in
/-- The first half: the search. -/
theorem rfirst_none (w : World) (v : Value) (P : List (List Int)) (K len : Int) (hK : K < 1) (h : RdP w v P) :
    Calls Try.prog 15 #[v, .agg #[.int .i64 K, .int .i64 len]] w fun e w' => e = .returned (.agg #[.int .i64 0, .int .i64 0, .slice none 0 0, .bool false]) ∧ Below w.heap.size w w' := by
  have d1 : decide (K < 1) = true := decide_eq_true hK
  obtain ⟨a, cap, rfl, hc1, hc2⟩ := h.len
  clear h hK
  go_enter Try.func15, Try.ntmps15
  obtain ⟨w2, hw2⟩ : ∃ w2, w2 = (w.alloc (.cells #[.int .i64 K, .int .i64 len] 24)).alloc (.cells #[.int .i64 0, .int .i64 0, .slice none 0 0, .bool false] 27) := ⟨_, rfl⟩
  have HR := hid (show w2.heap[w.heap.size + 1]? = some (.cells #[.int .i64 0, .int .i64 0, .slice none 0 0, .bool false] 27 (0, 0)) by rw [hw2]; have := heap_alloc_new (w.alloc (.cells #[.int .i64 K, .int .i64 len] 24)) (.cells #[.int .i64 0, .int .i64 0, .slice none 0 0, .bool false] 27); rwa [World.size_alloc] at this)
  have HB := hid (show Below w.heap.size w w2 by rw [hw2]; exact ((Below.refl _ w).alloc (Nat.le_refl _) _).alloc (by simp) _)
  have HW := hid hw2
  clear hw2
  go_wp2_with (first
    | (rw [← HW.out]; refine store_st rfl 27 (.tmp 4) (.tmp 21) rfl (w.heap.size + 1) #[.int .i64 0, .int .i64 0, .slice none 0 0, .bool false] rfl rfl _ 4 HR.out info_rstart rfl rfl (by simp [Value.oneCell']) ?_)
    | fail)
  refine bodyPost_ret (results_cell_row (P := Try.prog) rfl _ _ (w.heap.size + 1) 27 _ (0, 0) _ rfl (setRow_heap w2 (w.heap.size + 1) _ _ _ _ HR.out) Try.underlying27 rfl (by kernel_rfl)) rfl ?_
  exact ⟨rfl, below_setRow HB.out _ _ (by omega)⟩

end Go.Proofs.Ytecojmpiaaehlaa
