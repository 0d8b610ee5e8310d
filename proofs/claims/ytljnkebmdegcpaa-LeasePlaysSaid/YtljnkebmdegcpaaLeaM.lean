/-
  What is known of nodes: plainly, and where it lies.
-/
import Derived.Test.YtljnkebmdegcpaaKit
import Derived.Test.YtljnkebmdegcpaaKeepT
import Derived.Test.YtljnkebmdegcpaaAppR
import Derived.Test.YtljnkebmdegcpaaCapM
import Derived.Laws.Rows
import Derived.Laws.NewBlocks
namespace Go.Proofs.Ytljnkebmdegcpaa
open Go.RowKit
set_option linter.unusedVariables false

/-- A node: state, life, heard, until. -/
abbrev Nd := Nat × Nat × Nat × Nat
def ncel (x : Nd) : List Value := [.int .u8 (x.1 : Int), .int .u32 (x.2.1 : Int), .int .u32 (x.2.2.1 : Int), .int .u32 (x.2.2.2 : Int)]
def ncels (l : List Nd) : List Value := l.flatMap ncel
theorem ncels_cons (x : Nd) (l : List Nd) : ncels (x :: l) = ncel x ++ ncels l := rfl
theorem ncels_snoc (l : List Nd) (x : Nd) : ncels (l ++ [x]) = ncels l ++ ncel x := by unfold ncels; rw [List.flatMap_append]; simp
theorem ncels_len (l : List Nd) : (ncels l).length = l.length * 4 := by
  induction l with
  | nil => rfl
  | cons x l ih => rw [ncels_cons, List.length_append, ih, List.length_cons]; show 4 + _ = _; omega
theorem ncels_at : ∀ (l : List Nd) (k : Nat) (x : Nd) (c : Nat) (v : Value), l[k]? = some x → (ncel x)[c]? = some v → (ncels l)[k * 4 + c]? = some v
  | x :: l, 0, y, c, v, h, hv => by
    simp at h; subst h
    have hc : c < 4 := (List.getElem?_eq_some_iff.1 hv).1
    rw [ncels_cons, List.getElem?_append_left (by show 0 * 4 + c < 4; omega)]
    simpa using hv
  | x :: l, k + 1, y, c, v, h, hv => by
    have e : (k + 1) * 4 + c = 4 + (k * 4 + c) := by omega
    rw [ncels_cons, e, List.getElem?_append_right (by show 4 ≤ _; omega)]
    show (ncels l)[4 + (k * 4 + c) - 4]? = _
    rw [Nat.add_sub_cancel_left]
    exact ncels_at l k y c v (by simpa using h) hv
theorem ncels_set : ∀ (l : List Nd) (k : Nat) (x : Nd) (c : Nat) (v : Value) (y : Nd), l[k]? = some x → ncel y = (ncel x).set c v → c < 4 → (ncels l).set (k * 4 + c) v = ncels (l.set k y)
  | x :: l, 0, z, c, v, y, h, hv, hc => by
    simp at h; subst h
    rw [ncels_cons, List.set_cons_zero, ncels_cons, hv, List.set_append_left _ _ (by show 0 * 4 + c < 4; omega)]
    simp
  | x :: l, k + 1, z, c, v, y, h, hv, hc => by
    have e : (k + 1) * 4 + c = 4 + (k * 4 + c) := by omega
    rw [ncels_cons, List.set_cons_succ, ncels_cons, e, List.set_append_right _ _ (by show 4 ≤ _; omega)]
    show ncel x ++ (ncels l).set (4 + (k * 4 + c) - 4) v = _
    rw [Nat.add_sub_cancel_left, ncels_set l k z c v y (by simpa using h) hv hc]
theorem ncels_one (l : List Nd) : ∀ u ∈ ncels l, u.oneCell' = true := by
  intro u hu
  unfold ncels at hu
  rw [List.mem_flatMap] at hu
  obtain ⟨x, _, hx⟩ := hu
  unfold ncel at hx
  simp at hx
  rcases hx with rfl | rfl | rfl | rfl <;> rfl

def lat (now : Nat) : Nat := if 4294967295 < now + 8 then 4294967295 else now + 8
theorem lat_of (now : Nat) : Cap.later (now : Int) 8 = (lat now : Int) := by
  unfold Cap.later lat
  have e : Cap.inn 8 = 8 := by decide
  rw [e]
  split <;> split <;> omega
theorem lat_le (now : Nat) : lat now ≤ 4294967295 := by unfold lat; split <;> omega
def NdOk (x : Nd) : Prop := x.1 ≤ 2 ∧ x.2.1 ≤ 4294967295 ∧ x.2.2.1 ≤ 4294967295 ∧ x.2.2.2 ≤ 4294967295
/-- A Hello of a life: the node then, fresh, lost. -/
def hear1 (now life : Nat) (x : Nd) : Nd × Bool × Bool :=
  if x.2.1 < life then ((1, life, now, max x.2.2.2 (lat now)), true, decide (x.1 ≠ 0))
  else if life = x.2.1 ∧ x.1 ≠ 0 then ((x.1, x.2.1, now, x.2.2.2), false, false) else (x, false, false)
def nd (l : List Nd) (i : Nat) : Nd := l.getD i (0, 0, 0, 0)
def hear (l : List Nd) (i : Int) (now life : Nat) : List Nd × Bool × Bool :=
  if i < 0 ∨ (l.length : Int) ≤ i then (l, false, false) else (l.set i.toNat (hear1 now life (nd l i.toNat)).1, (hear1 now life (nd l i.toNat)).2)
def qui (now : Nat) (x : Nd) : Bool := decide (x.2.2.1 + 4 ≤ now)
/-- What a tick makes of a node's state ahead of Grants. -/
def dbt (now : Nat) (x : Nd) : Nd := if x.1 = 1 ∧ x.2.2.1 + 4 ≤ now then (2, x.2.1, x.2.2.1, x.2.2.2) else x
def tick1 (now : Nat) (x : Nd) : Nd :=
  if (dbt now x).1 = 1 then (1, x.2.1, x.2.2.1, max x.2.2.2 (lat now))
  else if (dbt now x).1 = 2 ∧ x.2.2.2 < now then (0, x.2.1, x.2.2.1, x.2.2.2) else dbt now x
def grant (now : Nat) (x : Nd) : Bool := decide ((dbt now x).1 = 1)
def gone (now : Nat) (x : Nd) : Bool := decide ((dbt now x).1 = 2) && decide (x.2.2.2 < now)
def ticks (now : Nat) (l : List Nd) : List Nd := l.map (tick1 now)
/-- The Grants of the first k nodes; who of them is away. -/
def grants (now : Nat) (l : List Nd) : Nat → List (Nat × Nat)
  | 0 => []
  | k + 1 => if grant now (nd l k) then grants now l k ++ [(k, (tick1 now (nd l k)).2.2.2)] else grants now l k
def aways (now : Nat) (l : List Nd) : Nat → List Nat
  | 0 => []
  | k + 1 => if gone now (nd l k) then aways now l k ++ [k] else aways now l k
theorem grants_len (now : Nat) (l : List Nd) : ∀ k, (grants now l k).length ≤ k
  | 0 => Nat.le_refl _
  | k + 1 => by have := grants_len now l k; unfold grants; split <;> simp <;> omega
theorem aways_len (now : Nat) (l : List Nd) : ∀ k, (aways now l k).length ≤ k
  | 0 => Nat.le_refl _
  | k + 1 => by have := aways_len now l k; unfold aways; split <;> simp <;> omega
theorem hear1_ok {now life : Nat} {x : Nd} (h : NdOk x) (hn : now ≤ 4294967295) (hl : life ≤ 4294967295) : NdOk (hear1 now life x).1 := by
  obtain ⟨h1, h2, h3, h4⟩ := h
  have := lat_le now
  unfold hear1
  split
  · exact ⟨by show 1 ≤ 2; omega, hl, hn, by show max _ _ ≤ _; omega⟩
  · split
    · exact ⟨h1, h2, hn, h4⟩
    · exact ⟨h1, h2, h3, h4⟩
theorem dbt_ok {now : Nat} {x : Nd} (h : NdOk x) : NdOk (dbt now x) := by
  obtain ⟨h1, h2, h3, h4⟩ := h
  unfold dbt
  split
  · exact ⟨Nat.le_refl _, h2, h3, h4⟩
  · exact ⟨h1, h2, h3, h4⟩
theorem tick1_ok {now : Nat} {x : Nd} (h : NdOk x) : NdOk (tick1 now x) := by
  have hd := dbt_ok (now := now) h
  obtain ⟨h1, h2, h3, h4⟩ := h
  have := lat_le now
  unfold tick1
  split
  · exact ⟨by show 1 ≤ 2; omega, h2, h3, by show max _ _ ≤ _; omega⟩
  · split
    · exact ⟨by show 0 ≤ 2; omega, h2, h3, h4⟩
    · exact hd

/-- A book in block b, its nodes in block g. -/
structure BkAt (w : World) (b g : Nat) (l : List Nd) : Prop where
  blk : w.heap[b]? = some (.cells #[.slice (some ⟨g, 0, none⟩) l.length l.length] 60 (0, 0))
  row : w.heap[g]? = some (.cells (ncels l).toArray 65 (0, 0))
  len : 1 ≤ l.length ∧ l.length ≤ 16
  ok : ∀ x ∈ l, NdOk x
section
variable {w w' : World} {b g : Nat} {l : List Nd}
theorem BkAt.lt (h : BkAt w b g l) : b < w.heap.size ∧ g < w.heap.size := ⟨(Array.getElem?_eq_some_iff.1 h.blk).1, (Array.getElem?_eq_some_iff.1 h.row).1⟩
theorem BkAt.ne (h : BkAt w b g l) : b ≠ g := by
  rintro rfl
  have h1 := h.blk
  rw [h.row] at h1
  simp at h1
theorem BkAt.keeps {S : Nat → Prop} (h : BkAt w b g l) (hk : Keeps S w w') (hb : ¬ S b) (hg : ¬ S g) : BkAt w' b g l :=
  ⟨(hk.block b h.lt.1 hb).trans h.blk, (hk.block g h.lt.2 hg).trans h.row, h.len, h.ok⟩
theorem BkAt.below (h : BkAt w b g l) (hb : Below w.heap.size w w') : BkAt w' b g l :=
  ⟨(hb.block b h.lt.1).trans h.blk, (hb.block g h.lt.2).trans h.row, h.len, h.ok⟩
theorem BkAt.sl (h : BkAt w b g l) : w.cell? ⟨b, 0, none⟩ = some (.slice (some ⟨g, 0, none⟩) l.length l.length) := (cell_of_row _ _ _ _ _ _ h.blk).trans rfl
theorem nd_at {k : Nat} (hk : k < l.length) : l[k]? = some (nd l k) := by unfold nd; rw [List.getD_eq_getElem?_getD, List.getElem?_eq_getElem hk]; rfl
theorem nd_mem {k : Nat} (hk : k < l.length) : nd l k ∈ l := by unfold nd; rw [List.getD_eq_getElem?_getD, List.getElem?_eq_getElem hk]; exact List.getElem_mem _
theorem BkAt.cells (h : BkAt w b g l) {k : Nat} (hk : k < l.length) :
    w.cell? ⟨g, k * 4, none⟩ = some (.int .u8 ((nd l k).1 : Int)) ∧ w.cell? ⟨g, k * 4 + 1, none⟩ = some (.int .u32 ((nd l k).2.1 : Int)) ∧
    w.cell? ⟨g, k * 4 + 2, none⟩ = some (.int .u32 ((nd l k).2.2.1 : Int)) ∧ w.cell? ⟨g, k * 4 + 3, none⟩ = some (.int .u32 ((nd l k).2.2.2 : Int)) := by
  have f : ∀ c v, (ncel (nd l k))[c]? = some v → w.cell? ⟨g, k * 4 + c, none⟩ = some v := fun c v hv => (cell_of_row _ _ _ _ _ _ h.row).trans (by rw [List.getElem?_toArray]; exact ncels_at l k _ c v (nd_at hk) hv)
  exact ⟨f 0 _ rfl, f 1 _ rfl, f 2 _ rfl, f 3 _ rfl⟩
theorem BkAt.fr (h : BkAt w b g l) (k : Nat) : w.frozen? ⟨g, k, none⟩ = false := frozen_of_row _ _ _ _ _ h.row
theorem heap_setCell_arrL (w : World) (g j : Nat) (cs : Array Value) (t : TypeId) (fr : Nat × Nat) (v : Value) (hg : w.heap[g]? = some (.cells cs t fr)) : (w.setCell ⟨g, j, none⟩ v).heap[g]? = some (.cells (cs.setIfInBounds j v) t fr) := by
  obtain ⟨hlt, hk⟩ := Array.getElem?_eq_some_iff.1 hg
  show (w.heap.modify g _)[g]? = _
  rw [Array.getElem?_eq_getElem (by rw [Array.size_modify]; exact hlt), Array.getElem_modify_self, hk]
  simp
theorem ksetL (w : World) (g j : Nat) (v : Value) : Keeps (fun k => k = g) w (w.setCell ⟨g, j, none⟩ v) := (Keeps.refl (fun k => k = g) w).setCell (fun _ => rfl) v
/-- One cell of a node is another. -/
theorem BkAt.put (h : BkAt w b g l) {k : Nat} (hk : k < l.length) (c : Nat) (v : Value) (y : Nd) (hc : c < 4) (hv : ncel y = (ncel (nd l k)).set c v) (hy : NdOk y) : BkAt (w.setCell ⟨g, k * 4 + c, none⟩ v) b g (l.set k y) := by
  refine ⟨?_, ?_, by rw [List.length_set]; exact h.len, fun x hx => ?_⟩
  · rw [List.length_set]; exact ((ksetL w g _ v).block b h.lt.1 h.ne).trans h.blk
  · refine (heap_setCell_arrL _ _ _ _ _ _ _ h.row).trans ?_
    rw [List.setIfInBounds_toArray, ncels_set l k _ c v y (nd_at hk) hv hc]
  · rcases List.mem_or_eq_of_mem_set hx with h1 | rfl
    · exact h.ok x h1
    · exact hy
theorem nd_set {k : Nat} (hk : k < l.length) (y : Nd) : nd (l.set k y) k = y := by unfold nd; rw [List.getD_eq_getElem?_getD, List.getElem?_set]; simp [hk]
theorem nd_set_ne {k j : Nat} (h : k ≠ j) (y : Nd) : nd (l.set k y) j = nd l j := by unfold nd; rw [List.getD_eq_getElem?_getD, List.getElem?_set, if_neg h, ← List.getD_eq_getElem?_getD]
end

end Go.Proofs.Ytljnkebmdegcpaa
