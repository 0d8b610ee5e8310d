/-
  A profile that came in, and one of the call's own; taken.
-/
import Derived.Test.YtniapeionhdibaaPlP
import Derived.Deep.RegionHeld3
namespace Go.Proofs.Ytniapeionhdibaa
open Go.RowKit Go.Shelf
set_option linter.unusedVariables false

/-- A slice of slices of numbers reads so. -/
def RdP (w : World) (v : Value) (P : List (List Int)) : Prop :=
  (v = .slice none 0 0 ∧ P = []) ∨ ∃ b off cap, v = .slice (some ⟨b, off, none⟩) P.length cap ∧ P.length ≤ cap ∧ cap ≤ 9223372036854775807 ∧ b < w.heap.size ∧
    ∀ (i : Nat) (r : List Int), P[i]? = some r → ∃ a c, w.cell? ⟨b, off + i, none⟩ = some (.slice a r.length c) ∧ RdV w (.slice a r.length c) (r.map iw)
theorem RdP.all {w w' : World} {v : Value} {P : List (List Int)} (h : RdP w v P) (hb : Below w.heap.size w w') : RdP w' v P := by
  rcases h with h | ⟨b, off, cap, rfl, h1, h2, h3, h4⟩
  · exact .inl h
  · refine .inr ⟨b, off, cap, rfl, h1, h2, by have := hb.size; omega, fun i r hi => ?_⟩
    obtain ⟨a, c, g1, g2⟩ := h4 i r hi
    exact ⟨a, c, (hb.cell (p := ⟨b, off + i, none⟩) h3).trans g1, g2.all hb⟩
theorem RdP.len {w : World} {v : Value} {P : List (List Int)} (h : RdP w v P) : ∃ a cap, v = .slice a P.length cap ∧ P.length ≤ cap ∧ cap ≤ 9223372036854775807 := by
  rcases h with ⟨rfl, rfl⟩ | ⟨b, off, cap, rfl, h1, h2, _⟩
  · exact ⟨none, 0, rfl, Nat.le_refl _, by omega⟩
  · exact ⟨_, cap, rfl, h1, h2⟩
theorem RdP.at {w : World} {a : Option Addr} {n cap : Nat} {P : List (List Int)} (h : RdP w (.slice a n cap) P) (i : Nat) (r : List Int) (hi : P[i]? = some r) :
    ∃ b off, a = some ⟨b, off, none⟩ ∧ ∃ a' c, w.cell? ⟨b, off + i, none⟩ = some (.slice a' r.length c) ∧ r.length ≤ c ∧ c ≤ 9223372036854775807 ∧ RdV w (.slice a' r.length c) (r.map iw) := by
  rcases h with ⟨_, rfl⟩ | ⟨b, off, cap', e, h1, h2, h3, h4⟩
  · simp at hi
  · simp only [Value.slice.injEq] at e
    obtain ⟨rfl, -, -⟩ := e
    obtain ⟨a', c, g1, g2⟩ := h4 i r hi
    obtain ⟨a2, c2, e2, g3, g4⟩ := g2.len
    simp only [Value.slice.injEq] at e2
    obtain ⟨rfl, -, rfl⟩ := e2
    rw [List.length_map] at g3
    exact ⟨b, off, rfl, a', c, g1, g3, g4, g2⟩

/-- A profile of the call's own: its rows' slices in the block bc, the row i in the block g i. -/
structure PfAt (w : World) (lo bc : Nat) (g : Nat → Nat) (p : List (List Nat)) : Prop where
  rows : ∃ z : Array Value, w.heap[bc]? = some (.cells z 35 (0, 0)) ∧ ∀ (i : Nat) (l : List Nat), p[i]? = some l → z[i]? = some (.slice (some ⟨g i, 0, none⟩) l.length l.length)
  cells : ∀ (i : Nat) (l : List Nat), p[i]? = some l → ∃ z : Array Value, w.heap[g i]? = some (.cells z 3 (0, 0)) ∧ ∀ (k x : Nat), l[k]? = some x → z[k]? = some (iv x)
  inj : ∀ i j, i < p.length → j < p.length → g i = g j → i = j
  lob : lo ≤ bc
  log : ∀ i, i < p.length → lo ≤ g i
  len : p.length ≤ 1000
  rlen : ∀ l ∈ p, l.length ≤ 1000
  tl : ∀ l ∈ p, ∀ x ∈ l, x ≤ topN

theorem PfAt.bcl {w : World} {lo bc : Nat} {g : Nat → Nat} {p : List (List Nat)} (h : PfAt w lo bc g p) : bc < w.heap.size := by
  obtain ⟨z, h1, _⟩ := h.rows; exact (Array.getElem?_eq_some_iff.1 h1).1
theorem PfAt.gl {w : World} {lo bc : Nat} {g : Nat → Nat} {p : List (List Nat)} (h : PfAt w lo bc g p) (i : Nat) (hi : i < p.length) : g i < w.heap.size := by
  obtain ⟨z, h1, _⟩ := h.cells i _ (List.getElem?_eq_getElem hi); exact (Array.getElem?_eq_some_iff.1 h1).1
theorem PfAt.to {w w' : World} {lo bc : Nat} {g : Nat → Nat} {p : List (List Nat)} (h : PfAt w lo bc g p) (h1 : w'.heap[bc]? = w.heap[bc]?) (h2 : ∀ i, i < p.length → w'.heap[g i]? = w.heap[g i]?) : PfAt w' lo bc g p := by
  refine { h with rows := ?_, cells := ?_ }
  · rw [h1]; exact h.rows
  · intro i l hi; rw [h2 i (List.getElem?_eq_some_iff.1 hi).1]; exact h.cells i l hi
theorem PfAt.below {w w' : World} {lo bc B : Nat} {g : Nat → Nat} {p : List (List Nat)} (h : PfAt w lo bc g p) (hb : Below B w w') (hB : w.heap.size ≤ B) : PfAt w' lo bc g p :=
  h.to (hb.block _ (by have := h.bcl; omega)) fun i hi => hb.block _ (by have := h.gl i hi; omega)
theorem PfAt.ne {w : World} {lo bc : Nat} {g : Nat → Nat} {p : List (List Nat)} (h : PfAt w lo bc g p) (i : Nat) (hi : i < p.length) : g i ≠ bc := by
  obtain ⟨z, h1, _⟩ := h.cells i _ (List.getElem?_eq_getElem hi)
  obtain ⟨y, h2, _⟩ := h.rows
  intro e
  rw [e, h2] at h1
  simp at h1
theorem PfAt.row {w : World} {lo bc : Nat} {g : Nat → Nat} {p : List (List Nat)} (h : PfAt w lo bc g p) (i : Nat) (l : List Nat) (hi : p[i]? = some l) : w.cell? ⟨bc, i, none⟩ = some (.slice (some ⟨g i, 0, none⟩) l.length l.length) := by
  obtain ⟨z, h1, h2⟩ := h.rows
  rw [cell_of_row _ _ _ _ _ _ h1]; exact h2 i l hi
theorem PfAt.rd {w : World} {lo bc : Nat} {g : Nat → Nat} {p : List (List Nat)} (h : PfAt w lo bc g p) (i : Nat) (l : List Nat) (hi : p[i]? = some l) : RdV w (.slice (some ⟨g i, 0, none⟩) l.length l.length) (l.map iv) := by
  obtain ⟨z, h1, h2⟩ := h.cells i l hi
  have hlen := h.rlen l (List.mem_of_getElem? hi)
  refine .inr ⟨g i, 0, l.length, by rw [List.length_map], by rw [List.length_map]; exact Nat.le_refl _, by omega, (Array.getElem?_eq_some_iff.1 h1).1, fun j x hx => ?_⟩
  rw [Nat.zero_add, cell_of_row _ _ _ _ _ _ h1]
  rw [List.getElem?_map] at hx
  cases hj : l[j]? with
  | none => rw [hj] at hx; cases hx
  | some y => rw [hj] at hx; cases hx; exact h2 j y hj

/-- Rows of noughts. -/
def zrow (n : Nat) : Array Value := (List.replicate n (Value.int .i64 0)).toArray
def nrow (n : Nat) : Array Value := (List.replicate n (Value.slice none 0 0)).toArray
theorem infoRows : (Try.prog.info? 35).map (fun i => (i.zero, i.size, i.bytes)) = some (some (.slice none 0 0), 1, 24) := by kernel_rfl
theorem mkints (w : World) (n : Nat) (hn : n ≤ 1000) : (Instr.makeSlice 35 (.int .i64 n) (.int .i64 n)).run Try.prog w = .ok (.slice (some ⟨w.heap.size, 0, none⟩) n n) (w.alloc (.cells (zrow n) 3)) := by
  obtain ⟨i, hi, hz0, hz1, hz2⟩ := info_parts Try.infoInt
  have := run_makeSlice (P := Try.prog) (w := w) 35 3 i _ Try.underlying35 hi hz0 .i64 .i64 n n (by omega) (Int.le_refl _) (by rw [hz1]; simp; omega) (by rw [hz2]; omega) (by omega)
  rw [this, hz1]
  have e : madeCells (Value.int .i64 0).cells ((n : Int).toNat * 1) = zrow n := by
    apply Array.ext'
    show (madeCells #[Value.int .i64 0] ((n : Int).toNat * 1)).toList = _
    rw [toList_madeCells_one]
    simp [zrow]
  rw [e]; rfl
theorem mkrows (w : World) (n : Nat) (hn : n ≤ 1000) : (Instr.makeSlice 30 (.int .i64 n) (.int .i64 n)).run Try.prog w = .ok (.slice (some ⟨w.heap.size, 0, none⟩) n n) (w.alloc (.cells (nrow n) 35)) := by
  obtain ⟨i, hi, hz0, hz1, hz2⟩ := info_parts infoRows
  have := run_makeSlice (P := Try.prog) (w := w) 30 35 i _ Try.underlying30 hi hz0 .i64 .i64 n n (by omega) (Int.le_refl _) (by rw [hz1]; simp; omega) (by rw [hz2]; omega) (by omega)
  rw [this, hz1]
  have e : madeCells (Value.slice none 0 0).cells ((n : Int).toNat * 1) = nrow n := by
    apply Array.ext'
    show (madeCells #[Value.slice none 0 0] ((n : Int).toNat * 1)).toList = _
    rw [toList_madeCells_one]
    simp [nrow]
  rw [e]; rfl

theorem heap_setCell_arr (w : World) (g j : Nat) (cs : Array Value) (t : TypeId) (fr : Nat × Nat) (v : Value) (hg : w.heap[g]? = some (.cells cs t fr)) : (w.setCell ⟨g, j, none⟩ v).heap[g]? = some (.cells (cs.setIfInBounds j v) t fr) := by
  obtain ⟨hlt, hk⟩ := Array.getElem?_eq_some_iff.1 hg
  show (w.heap.modify g _)[g]? = _
  rw [Array.getElem?_eq_getElem (by rw [Array.size_modify]; exact hlt), Array.getElem_modify_self, hk]
  simp

def bndL (r : List Int) : List Nat := r.map bnd
def bndP (P : List (List Int)) : List (List Nat) := P.map bndL

/-- The rows' slices, as far as they are laid. -/
structure Slots (w : World) (bc n k : Nat) (g : Nat → Nat) (P : List (List Int)) : Prop where
  blk : ∃ z : Array Value, w.heap[bc]? = some (.cells z 35 (0, 0)) ∧ z.size = n ∧ ∀ (i : Nat) (r : List Int), i < k → P[i]? = some r → z[i]? = some (.slice (some ⟨g i, 0, none⟩) r.length r.length)
  cells : ∀ (i : Nat) (r : List Int), i < k → P[i]? = some r → ∃ z : Array Value, w.heap[g i]? = some (.cells z 3 (0, 0)) ∧ ∀ (j : Nat) (x : Int), r[j]? = some x → z[j]? = some (iv (bnd x))
/-- One row, as far as it is filled. -/
structure Part (w : World) (g q : Nat) (r : List Int) : Prop where
  blk : ∃ z : Array Value, w.heap[g]? = some (.cells z 3 (0, 0)) ∧ z.size = r.length ∧ ∀ (j : Nat) (x : Int), j < q → r[j]? = some x → z[j]? = some (iv (bnd x))

theorem Slots.to {w w' : World} {bc n k : Nat} {g : Nat → Nat} {P : List (List Int)} (h : Slots w bc n k g P) (hk : k ≤ P.length) (h1 : w'.heap[bc]? = w.heap[bc]?) (h2 : ∀ i, i < k → w'.heap[g i]? = w.heap[g i]?) : Slots w' bc n k g P :=
  ⟨by rw [h1]; exact h.blk, fun i r hi hr => by rw [h2 i hi]; exact h.cells i r hi hr⟩
theorem Slots.lt {w : World} {bc n k : Nat} {g : Nat → Nat} {P : List (List Int)} (h : Slots w bc n k g P) (hk : k ≤ P.length) : bc < w.heap.size ∧ ∀ i, i < k → g i < w.heap.size := by
  obtain ⟨z, h1, _⟩ := h.blk
  refine ⟨(Array.getElem?_eq_some_iff.1 h1).1, fun i hi => ?_⟩
  obtain ⟨y, h2, _⟩ := h.cells i _ hi (List.getElem?_eq_getElem (by omega))
  exact (Array.getElem?_eq_some_iff.1 h2).1

theorem Part.write {w : World} {g q : Nat} {r : List Int} {x : Int} (h : Part w g q r) (hx : r[q]? = some x) : Part (w.setCell ⟨g, q, none⟩ (.int .i64 (bnd x : Nat))) g (q + 1) r := by
  obtain ⟨z, h1, h2, h3⟩ := h.blk
  have hq := (List.getElem?_eq_some_iff.1 hx).1
  refine ⟨_, heap_setCell_arr _ _ _ _ _ _ _ h1, by simp [h2], fun j y hj hy => ?_⟩
  by_cases e : q = j
  · subst e
    rw [hx] at hy
    cases hy
    rw [Array.getElem?_setIfInBounds_self, if_pos (by omega)]
    rfl
  · rw [Array.getElem?_setIfInBounds_ne e]
    exact h3 j y (by omega) hy

set_option maxRecDepth 100000 in
set_option maxHeartbeats 8000000 in
theorem taken_any (w : World) (v : Value) (P : List (List Int)) (h : RdP w v P) (hl : P.length ≤ 1000) (hrl : ∀ r ∈ P, r.length ≤ 1000) :
    Calls Try.prog 22 #[v] w fun e w' => ∃ bc g, e = .returned (.slice (some ⟨bc, 0, none⟩) P.length P.length) ∧ PfAt w' w.heap.size bc g (bndP P) ∧ Below w.heap.size w w' := by
  obtain ⟨a, cap, rfl, hc1, hc2⟩ := h.len
  have HH := hid h
  have hmk := mkrows w P.length hl
  generalize hZ : nrow P.length = Z at hmk
  have HZ := hid hZ
  obtain ⟨bc, hbc⟩ : ∃ bc, bc = w.heap.size := ⟨_, rfl⟩
  clear h hZ
  go_enter Try.func22, Try.ntmps22
  go_wp2_with fail
  have HB0 := hid (show Below w.heap.size w (w.alloc (.cells Z 35)) from (Below.refl _ w).alloc (Nat.le_refl _) _)
  have HS0 := hid (show Slots (w.alloc (.cells Z 35)) w.heap.size P.length 0 (fun i => i) P from ⟨⟨Z, heap_alloc_new w _, by rw [← HZ.out]; simp [nrow], fun i r hi => absurd hi (Nat.not_lt_zero _)⟩, fun i r hi => absurd hi (Nat.not_lt_zero _)⟩)
  rw [← hbc] at HS0 ⊢
  have HBC := hid hbc
  clear hmk hbc
  go_loopw [13] (fun i wr => ∃ (k : Nat) (g : Nat → Nat), k ≤ P.length ∧ i = .int .i64 k ∧ Slots wr bc P.length k g P ∧ (∀ i j, i < k → j < k → g i = g j → i = j) ∧ (∀ i, i < k → w.heap.size ≤ g i ∧ g i ≠ bc) ∧ Below w.heap.size w wr) (fun i _ => P.length - (intOf i).toNat)
  case atStart => exact ⟨0, fun i => i, Nat.zero_le _, rfl, HS0.out, (fun i j hi => absurd hi (Nat.not_lt_zero _)), (fun i hi => absurd hi (Nat.not_lt_zero _)), HB0.out⟩
  case round =>
    obtain ⟨k, g, hk, rfl, hS, hinj, hlow, hB⟩ := hrel
    have HS := hid hS
    have HIN := hid hinj
    have HLO := hid hlow
    have HB := hid hB
    have hsw := hB.size
    obtain ⟨hbl, hgl⟩ := hS.lt hk
    have HGL := hid hgl
    clear hS hinj hlow hgl
    by_cases hlt : k < P.length
    · obtain ⟨r, hr⟩ : ∃ r, P[k]? = some r := ⟨_, List.getElem?_eq_getElem hlt⟩
      have hrlen := hrl r (List.mem_of_getElem? hr)
      obtain ⟨b, off, rfl, a', c, hcell0, hrc1, hrc2, hrd0⟩ := HH.out.at k r hr
      have hcell : wr.cell? ⟨b, off + k, none⟩ = some (.slice a' r.length c) := (hB.cell (p := ⟨b, off + k, none⟩) (World.block_lt_of_cell? _ _ hcell0)).trans hcell0
      obtain ⟨z, hz1, hz2, hz3⟩ := HS.out.blk
      have hmk2 := mkints wr r.length hrlen
      generalize hY : zrow r.length = Y at hmk2
      have hYs : Y.size = r.length := by rw [← hY]; simp [zrow]
      have HYS := hid hYs
      have hki : (k : Int) < (P.length : Int) := by omega
      have hbA : Below wr.heap.size wr (wr.alloc (.cells Y 3)) := (Below.refl _ wr).alloc (Nat.le_refl _) _
      have hzA : (wr.alloc (.cells Y 3)).heap[bc]? = some (.cells z 35 (0, 0)) := (hbA.block bc hbl).trans hz1
      have hcA : ∃ u, (wr.alloc (.cells Y 3)).cell? ⟨bc, k, none⟩ = some u := by
        rw [cell_of_row _ _ _ _ _ _ hzA]
        exact ⟨_, Array.getElem?_eq_getElem (by omega)⟩
      obtain ⟨u, hcA⟩ := hcA
      have hfA : (wr.alloc (.cells Y 3)).frozen? ⟨bc, k, none⟩ = false := frozen_of_row _ _ _ _ _ hzA
      have HR := hid hr
      have HRD := hid hrd0
      have HBA := hid hbA
      have HZ1 := hid hz1
      have HZ2 := hid hz2
      have HZ3 := hid hz3
      clear hY hYs hr hrd0 hz1 hz2 hz3 hbA hzA hB hcell0
      go_wp2_with fail
      obtain ⟨w1, hw1⟩ : ∃ w1, w1 = wr.setCell ⟨bc, k, none⟩ (.slice (some ⟨wr.heap.size, 0, none⟩) r.length r.length) := ⟨_, rfl⟩
      rw [← hw1]
      have hs1 : w1.heap.size = wr.heap.size := by rw [hw1]; simp [World.setCell]
      have hz1' : w1.heap[bc]? = some (.cells (z.setIfInBounds k (.slice (some ⟨wr.heap.size, 0, none⟩) r.length r.length)) 35 (0, 0)) := by rw [hw1]; exact heap_setCell_arr _ _ _ _ _ _ _ HZ1.out
      have hoth1 : ∀ q, q ≠ bc → w1.heap[q]? = wr.heap[q]? := fun q hq => by rw [hw1]; exact Below.heap_setCell _ _ _ _ hq
      have hB1 : Below w.heap.size w w1 := by
        rw [hw1]
        exact HB.out.setCell (by show w.heap.size ≤ bc; have := HBC.out; omega) _
      obtain ⟨w2, hw2⟩ : ∃ w2, w2 = w1.alloc (.cells Y 3) := ⟨_, rfl⟩
      rw [← hw2]
      have hz2' : w2.heap[bc]? = some (.cells (z.setIfInBounds k (.slice (some ⟨wr.heap.size, 0, none⟩) r.length r.length)) 35 (0, 0)) := by rw [hw2, Below.heap_alloc _ _ _ (by omega)]; exact hz1'
      have hoth : ∀ q, q < wr.heap.size → q ≠ bc → w2.heap[q]? = wr.heap[q]? := fun q hq hn => by rw [hw2, Below.heap_alloc _ _ _ (by omega)]; exact hoth1 q hn
      have hnew : w2.heap[wr.heap.size]? = some (.cells Y 3 (0, 0)) := by rw [hw2, ← hs1]; exact heap_alloc_new w1 _
      have HP2 := hid (show Part w2 wr.heap.size 0 r from ⟨⟨Y, hnew, HYS.out, fun j x hj => absurd hj (Nat.not_lt_zero _)⟩⟩)
      have HSL2 := hid (show Slots w2 bc P.length k g P by
        refine ⟨⟨_, hz2', by simp [HZ2.out], fun i r' hi hr' => ?_⟩, fun i r' hi hr' => ?_⟩
        · rw [Array.getElem?_setIfInBounds_ne (by omega)]
          exact HZ3.out i r' hi hr'
        · rw [hoth _ (HGL.out i hi) (HLO.out i hi).2]
          exact HS.out.cells i r' hi hr')
      have HC2 := hid (show ∃ z : Array Value, w2.heap[bc]? = some (.cells z 35 (0, 0)) ∧ z[k]? = some (.slice (some ⟨wr.heap.size, 0, none⟩) r.length r.length) from ⟨_, hz2', by
        rw [Array.getElem?_setIfInBounds_self, if_pos (by have := HZ2.out; omega)]⟩)
      have HB2 := hid (show Below w.heap.size w w2 by
        rw [hw2]
        exact hB1.alloc (by omega) _)
      have hsz2 : wr.heap.size < w2.heap.size := by rw [hw2]; simp; omega
      obtain ⟨gn, hgn⟩ : ∃ gn, gn = wr.heap.size := ⟨_, rfl⟩
      have HGN := hid hgn
      rw [← hgn] at HP2 HC2 ⊢
      have hgbc : gn ≠ bc := by omega
      have HNE := hid (show ∀ i, i < k → g i ≠ gn from fun i hi => by have := HGL.out i hi; omega)
      clear hw1 hs1 hz1' hoth1 hB1 hw2 hz2' hoth hnew hcell hmk2 hcA hfA hgn
      obtain ⟨wq, hwq⟩ : ∃ wq, wq = wr := ⟨_, rfl⟩
      subst hwq
      go_loopw [26] (fun i wr => ∃ q : Nat, q ≤ r.length ∧ i = .int .i64 q ∧ Part wr gn q r ∧ Slots wr bc P.length k g P ∧ (∃ z : Array Value, wr.heap[bc]? = some (.cells z 35 (0, 0)) ∧ z[k]? = some (.slice (some ⟨gn, 0, none⟩) r.length r.length)) ∧ Below w.heap.size w wr) (fun i _ => r.length - (intOf i).toNat)
      case atStart => exact ⟨0, Nat.zero_le _, rfl, HP2.out, HSL2.out, HC2.out, HB2.out⟩
      case round =>
        obtain ⟨q, hq, rfl, hP, hS, ⟨z, hz1, hz2⟩, hB⟩ := hrel
        have HP := hid hP
        have HS3 := hid hS
        have HB3 := hid hB
        have HZ1 := hid hz1
        have HZ2' := hid hz2
        clear hS
        by_cases hql : q < r.length
        · obtain ⟨x, hx⟩ : ∃ x, r[q]? = some x := ⟨_, List.getElem?_eq_getElem hql⟩
          obtain ⟨-, b2, off2, rfl, hb2, hcx⟩ := (HRD.out.all hB).at q (iw x) (by rw [List.getElem?_map, hx]; rfl)
          have hcx2 : wr.cell? ⟨b2, off2 + q, none⟩ = some (.int .i64 x) := hcx
          have e0 : wr.drew.cell? ⟨bc, k, none⟩ = some (.slice (some ⟨gn, 0, none⟩) r.length r.length) := (cell_of_row _ _ _ _ _ _ hz1).trans hz2
          obtain ⟨y, hy1, hy2, hy3⟩ := hP.blk
          have e1 : ∃ u, wr.drew.cell? ⟨gn, q, none⟩ = some u := by
            rw [show wr.drew.cell? ⟨gn, q, none⟩ = wr.cell? ⟨gn, q, none⟩ from rfl, cell_of_row _ _ _ _ _ _ hy1]
            exact ⟨_, Array.getElem?_eq_getElem (by omega)⟩
          obtain ⟨u2, e1⟩ := e1
          have f1 : wr.drew.frozen? ⟨gn, q, none⟩ = false := frozen_of_row wr _ _ _ _ hy1
          have hqi : (q : Int) < (r.length : Int) := by omega
          have HX := hid hx
          clear hcx hP hz1 hz2 hy1 hy2 hy3 hB hx
          go_wp2_with fail
          go_region_held3 (fun w' => w'.cell? ⟨bc, k, none⟩ = some (.slice (some ⟨gn, 0, none⟩) r.length r.length))
            (first | assumption | exact (World.cell?_setCell_far wr ⟨gn, q, none⟩ ⟨bc, k, none⟩ _ hgbc).trans e0 | fail)
            (first | (go_at_call 27; refine (bounded_any x _).mono ?_; rintro e w' ⟨rfl, rfl⟩) | fail)
          go_wp2
          go_roundw
          case rel =>
            have hP4 : Part (wr.setCell ⟨gn, q, none⟩ (.int .i64 (bnd x : Nat))) gn (q + 1) r := HP.out.write HX.out
            have ho4 : ∀ j, j ≠ gn → (wr.setCell ⟨gn, q, none⟩ (.int .i64 (bnd x : Nat))).heap[j]? = wr.heap[j]? := fun j hj => Below.heap_setCell _ _ _ _ hj
            exact ⟨q + 1, hql, by go_num, ⟨hP4.blk⟩, HS3.out.to hk (ho4 _ (Ne.symm hgbc)) (fun i hi => ho4 _ (HNE.out i hi)), ⟨z, (ho4 _ (Ne.symm hgbc)).trans HZ1.out, HZ2'.out⟩, (HB3.out.setCell (p := ⟨gn, q, none⟩) (by show w.heap.size ≤ gn; have := HGN.out; omega) _).drew⟩
          case measure => simp [intOf]; omega
        · have e : q = r.length := by omega
          have hqi : ¬ (q : Int) < (r.length : Int) := by omega
          obtain ⟨y, hy1, hy2, hy3⟩ := hP.blk
          obtain ⟨z5, hz51, hz52, hz53⟩ := HS3.out.blk
          have HS4 := hid (show Slots wr bc P.length (k + 1) (fun i => if i = k then gn else g i) P by
            refine ⟨⟨z5, hz51, hz52, fun i r' hi hr' => ?_⟩, fun i r' hi hr' => ?_⟩
            · by_cases e2 : i = k
              · subst e2
                rw [HR.out] at hr'
                cases hr'
                rw [HZ1.out] at hz51
                simp only [Option.some.injEq, Obj.cells.injEq] at hz51
                rw [if_pos rfl, ← hz51.1]
                exact HZ2'.out
              · rw [if_neg e2]
                exact hz53 i r' (by omega) hr'
            · by_cases e2 : i = k
              · subst e2
                rw [HR.out] at hr'
                cases hr'
                rw [if_pos rfl]
                exact ⟨y, hy1, fun j x hx => hy3 j x (by rw [e]; exact (List.getElem?_eq_some_iff.1 hx).1) hx⟩
              · rw [if_neg e2]
                exact HS3.out.cells i r' (by omega) hr')
          clear hy1 hy2 hy3 hz51 hz52 hz53 hP hz1 hz2 e hql
          go_wp2
          go_roundw
          case rel => exact ⟨k + 1, fun i => if i = k then gn else g i, hlt, by go_num, HS4.out, (fun i j hi hj he => by
            dsimp only at he
            by_cases e1 : i = k
            · by_cases e2 : j = k
              · omega
              · rw [if_pos e1, if_neg e2] at he
                exact absurd he.symm (HNE.out j (by omega))
            · by_cases e2 : j = k
              · rw [if_neg e1, if_pos e2] at he
                exact absurd he (HNE.out i (by omega))
              · rw [if_neg e1, if_neg e2] at he
                exact HIN.out i j (by omega) (by omega) he), (fun i hi => by
            dsimp only
            by_cases e1 : i = k
            · rw [if_pos e1]; exact ⟨by have := HGN.out; omega, hgbc⟩
            · rw [if_neg e1]; exact HLO.out i (by omega)), HB3.out⟩
          case measure => simp [intOf]; omega
    · have e : k = P.length := by omega
      have hki : ¬ (k : Int) < (P.length : Int) := by omega
      obtain ⟨z, hz1, hz2, hz3⟩ := HS.out.blk
      have hmp : ∀ (i : Nat) (l : List Nat), (bndP P)[i]? = some l → ∃ r, P[i]? = some r ∧ l = bndL r := fun i l hi => by
        unfold bndP at hi
        rw [List.getElem?_map] at hi
        cases hr : P[i]? with
        | none => rw [hr] at hi; cases hi
        | some r => rw [hr] at hi; cases hi; exact ⟨r, rfl, rfl⟩
      have hll : (bndP P).length = P.length := by simp [bndP]
      have HQ := hid (show PfAt wr w.heap.size bc g (bndP P) by
        refine ⟨⟨z, hz1, fun i l hi => ?_⟩, fun i l hi => ?_, fun i j hi hj he => HIN.out i j (by omega) (by omega) he, by have := HBC.out; omega, fun i hi => (HLO.out i (by omega)).1, by rw [hll]; exact hl, fun l hm => ?_, fun l hm x hx => ?_⟩
        · obtain ⟨r, hr, rfl⟩ := hmp i l hi
          rw [hz3 i r (by have := (List.getElem?_eq_some_iff.1 hr).1; omega) hr]
          simp [bndL]
        · obtain ⟨r, hr, rfl⟩ := hmp i l hi
          obtain ⟨y, hy1, hy2⟩ := HS.out.cells i r (by have := (List.getElem?_eq_some_iff.1 hr).1; omega) hr
          refine ⟨y, hy1, fun j x hx => ?_⟩
          unfold bndL at hx
          rw [List.getElem?_map] at hx
          cases hq : r[j]? with
          | none => rw [hq] at hx; cases hx
          | some n => rw [hq] at hx; cases hx; exact hy2 j n hq
        · obtain ⟨r, hr, rfl⟩ := List.mem_map.1 hm
          show (r.map bnd).length ≤ 1000
          rw [List.length_map]
          exact hrl r hr
        · obtain ⟨r, hr, rfl⟩ := List.mem_map.1 hm
          obtain ⟨n, hn, rfl⟩ := List.mem_map.1 hx
          exact bnd_le n)
      clear hz1 hz2 hz3 hmp hll e hlt
      go_wp2
      go_ret
      exact ⟨bc, rfl, ⟨g, HQ.out⟩, HB.out⟩

end Go.Proofs.Ytniapeionhdibaa
