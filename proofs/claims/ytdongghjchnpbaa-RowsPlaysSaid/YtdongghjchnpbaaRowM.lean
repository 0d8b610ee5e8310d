/-
  The matrix, plainly: how many rows and nodes, what each cell holds, which nodes are down; and where it lies.
-/
import Derived.Test.YtdongghjchnpbaaKit
namespace Go.Proofs.Ytdongghjchnpbaa
open Go.RowKit
set_option linter.unusedVariables false

/-- A matrix: c (16 * row + node) is a cell, d node tells that a node is down. -/
structure Mx where
  r : Nat
  n : Nat
  c : Nat → Nat
  d : Nat → Bool

def Mx.cells (m : Mx) : List Value :=
  (.int .i64 m.r :: .int .i64 m.n :: (List.range 128).map fun k => .int .u32 (m.c k)) ++ (List.range 16).map fun k => .bool (m.d k)

theorem Mx.cells_length (m : Mx) : m.cells.length = 146 := by simp [Mx.cells]

theorem Mx.cells_r (m : Mx) : m.cells[0]? = some (.int .i64 m.r) := by simp [Mx.cells]
theorem Mx.cells_n (m : Mx) : m.cells[1]? = some (.int .i64 m.n) := by simp [Mx.cells]
theorem Mx.cells_c (m : Mx) (k : Nat) (hk : k < 128) : m.cells[2 + k]? = some (.int .u32 (m.c k)) := by
  unfold Mx.cells
  rw [List.getElem?_append_left (by simp; omega), show 2 + k = k + 1 + 1 by omega, List.getElem?_cons_succ, List.getElem?_cons_succ]
  simp [hk]
theorem Mx.cells_d (m : Mx) (k : Nat) (hk : k < 16) : m.cells[130 + k]? = some (.bool (m.d k)) := by
  unfold Mx.cells
  rw [List.getElem?_append_right (by simp)]
  simp [hk]

/-- A cell is another job's. -/
def Mx.put (m : Mx) (k j : Nat) : Mx := { m with c := fun i => if i = k then j else m.c i }
/-- A node is down, or up. -/
def Mx.turn (m : Mx) (k : Nat) (b : Bool) : Mx := { m with d := fun i => if i = k then b else m.d i }

theorem Mx.cells_ext {l l' : List Value} (h : l.length = l'.length) (hk : ∀ i, i < l.length → l[i]? = l'[i]?) : l = l' := by
  apply List.ext_getElem? fun i => ?_
  rcases Nat.lt_or_ge i l.length with hi | hi
  · exact hk i hi
  · rw [List.getElem?_eq_none hi, List.getElem?_eq_none (by omega)]

theorem parts146 (i : Nat) (hi : i < 146) : i = 0 ∨ i = 1 ∨ (∃ q, i = 2 + q ∧ q < 128) ∨ ∃ q, i = 130 + q ∧ q < 16 := by
  by_cases h0 : i = 0
  · exact .inl h0
  by_cases h1 : i = 1
  · exact .inr (.inl h1)
  by_cases h2 : i < 130
  · exact .inr (.inr (.inl ⟨i - 2, by omega, by omega⟩))
  · exact .inr (.inr (.inr ⟨i - 130, by omega, by omega⟩))

theorem Mx.cells_put (m : Mx) (k j : Nat) (hk : k < 128) : m.cells.set (2 + k) (.int .u32 (j : Nat)) = (m.put k j).cells := by
  apply Mx.cells_ext (by simp [Mx.cells_length])
  intro i hi
  rw [List.length_set, Mx.cells_length] at hi
  rw [List.getElem?_set, Mx.cells_length]
  by_cases e : 2 + k = i
  · subst e
    rw [if_pos rfl, if_pos hi, Mx.cells_c _ _ hk]
    simp [Mx.put]
  · rw [if_neg e]
    rcases parts146 i hi with h | h | ⟨q, h, hq⟩ | ⟨q, h, hq⟩
    · subst h; rw [Mx.cells_r, Mx.cells_r]; rfl
    · subst h; rw [Mx.cells_n, Mx.cells_n]; rfl
    · subst h
      rw [Mx.cells_c _ _ hq, Mx.cells_c _ _ hq]
      simp [Mx.put, show q ≠ k by omega]
    · subst h; rw [Mx.cells_d _ _ hq, Mx.cells_d _ _ hq]; rfl

theorem Mx.cells_turn (m : Mx) (k : Nat) (b : Bool) (hk : k < 16) : m.cells.set (130 + k) (.bool b) = (m.turn k b).cells := by
  apply Mx.cells_ext (by simp [Mx.cells_length])
  intro i hi
  rw [List.length_set, Mx.cells_length] at hi
  rw [List.getElem?_set, Mx.cells_length]
  by_cases e : 130 + k = i
  · subst e
    rw [if_pos rfl, if_pos hi, Mx.cells_d _ _ hk]
    simp [Mx.turn]
  · rw [if_neg e]
    rcases parts146 i hi with h | h | ⟨q, h, hq⟩ | ⟨q, h, hq⟩
    · subst h; rw [Mx.cells_r, Mx.cells_r]; rfl
    · subst h; rw [Mx.cells_n, Mx.cells_n]; rfl
    · subst h; rw [Mx.cells_c _ _ hq, Mx.cells_c _ _ hq]; rfl
    · subst h
      rw [Mx.cells_d _ _ hq, Mx.cells_d _ _ hq]
      simp [Mx.turn, show q ≠ k by omega]

/-- It lies in block b. -/
structure MxAt (w : World) (b : Nat) (m : Mx) : Prop where
  blk : w.heap[b]? = some (.cells m.cells.toArray 89 (0, 0))
  r1 : 1 ≤ m.r
  r8 : m.r ≤ 8
  n1 : 1 ≤ m.n
  n16 : m.n ≤ 16
  c32 : ∀ k, m.c k < 4294967296

theorem MxAt.lt {w : World} {b : Nat} {m : Mx} (h : MxAt w b m) : b < w.heap.size := (Array.getElem?_eq_some_iff.1 h.blk).1

theorem MxAt.cell {w : World} {b : Nat} {m : Mx} (h : MxAt w b m) (i : Nat) : w.cell? ⟨b, i, none⟩ = m.cells[i]? := by
  rw [cell_of_row _ _ _ _ _ _ h.blk, List.getElem?_toArray]

theorem MxAt.cr {w : World} {b : Nat} {m : Mx} (h : MxAt w b m) : w.cell? ⟨b, 0, none⟩ = some (.int .i64 m.r) := by rw [h.cell, Mx.cells_r]
theorem MxAt.cn {w : World} {b : Nat} {m : Mx} (h : MxAt w b m) : w.cell? ⟨b, 1, none⟩ = some (.int .i64 m.n) := by rw [h.cell, Mx.cells_n]
theorem MxAt.cc {w : World} {b : Nat} {m : Mx} (h : MxAt w b m) (k : Nat) (hk : k < 128) : w.cell? ⟨b, 2 + k, none⟩ = some (.int .u32 (m.c k)) := by rw [h.cell, Mx.cells_c _ _ hk]
theorem MxAt.cd {w : World} {b : Nat} {m : Mx} (h : MxAt w b m) (k : Nat) (hk : k < 16) : w.cell? ⟨b, 130 + k, none⟩ = some (.bool (m.d k)) := by rw [h.cell, Mx.cells_d _ _ hk]
theorem MxAt.frozen {w : World} {b : Nat} {m : Mx} (h : MxAt w b m) (i : Nat) : w.frozen? ⟨b, i, none⟩ = false := frozen_of_row _ _ _ _ _ h.blk

theorem MxAt.block {w w' : World} {b : Nat} {m : Mx} (h : MxAt w b m) (hb : w'.heap[b]? = w.heap[b]?) : MxAt w' b m := ⟨hb.trans h.blk, h.r1, h.r8, h.n1, h.n16, h.c32⟩
theorem MxAt.below {w w' : World} {b B : Nat} {m : Mx} (h : MxAt w b m) (hb : Below B w w') (hB : b < B) : MxAt w' b m := h.block (hb.block b hB)

theorem heap_setCell_at (w : World) (g j : Nat) (cs : List Value) (t : TypeId) (fr : Nat × Nat) (v : Value) (hg : w.heap[g]? = some (.cells cs.toArray t fr)) : (w.setCell ⟨g, j, none⟩ v).heap[g]? = some (.cells (cs.set j v).toArray t fr) := by
  obtain ⟨hlt, hk⟩ := Array.getElem?_eq_some_iff.1 hg
  show (w.heap.modify g _)[g]? = _
  rw [Array.getElem?_eq_getElem (by rw [Array.size_modify]; exact hlt), Array.getElem_modify_self, hk]
  simp

theorem MxAt.put {w : World} {b : Nat} {m : Mx} (h : MxAt w b m) (k j : Nat) (hk : k < 128) (hj : j < 4294967296) : MxAt (w.setCell ⟨b, 2 + k, none⟩ (.int .u32 (j : Nat))) b (m.put k j) := by
  refine ⟨?_, h.r1, h.r8, h.n1, h.n16, fun i => ?_⟩
  · rw [heap_setCell_at _ _ _ _ _ _ _ h.blk, Mx.cells_put _ _ _ hk]
  · show (if i = k then j else m.c i) < _
    split
    · exact hj
    · exact h.c32 i

theorem MxAt.turn {w : World} {b : Nat} {m : Mx} (h : MxAt w b m) (k : Nat) (v : Bool) (hk : k < 16) : MxAt (w.setCell ⟨b, 130 + k, none⟩ (.bool v)) b (m.turn k v) := by
  refine ⟨?_, h.r1, h.r8, h.n1, h.n16, h.c32⟩
  rw [heap_setCell_at _ _ _ _ _ _ _ h.blk, Mx.cells_turn _ _ _ hk]

/-- A new one. -/
def mx0 (r n : Nat) : Mx := ⟨r, n, fun _ => 0, fun _ => false⟩

end Go.Proofs.Ytdongghjchnpbaa
