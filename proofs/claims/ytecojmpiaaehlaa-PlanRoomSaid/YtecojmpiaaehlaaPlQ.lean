/-
  A profile that came in, and one of the call's own; taken.
-/
import Derived.Test.YtecojmpiaaehlaaPlP
import Derived.Deep.RegionHeld3
import Derived.Laws.CopyOwn
namespace Go.Proofs.Ytecojmpiaaehlaa
open Go.RowKit Go.Shelf
set_option linter.unusedVariables false

/-- A slice of slices of numbers reads so. -/
def RdP (w : World) (v : Value) (P : List (List Int)) : Prop :=
  (v = .slice none 0 0 ∧ P = []) ∨ ∃ b off cap, v = .slice (some ⟨b, off, none⟩) P.length cap ∧ P.length ≤ cap ∧ cap ≤ 9223372036854775807 ∧ b < w.heap.size ∧
    ∀ (i : Nat) (r : List Int), P[i]? = some r → ∃ a c, w.cell? ⟨b, off + i, none⟩ = some (.slice a r.length c) ∧ RdV w (.slice a r.length c) (r.map iw)
theorem RdP.all {w w' : World} {v : Value} {P : List (List Int)} (h : RdP w v P) (hb : Below w.heap.size w w') : RdP w' v P := by
  rcases h with h | ⟨b, off, cap, rfl, h1, h2, h3, h4⟩
  · exact .inl h
  · refine .inr ⟨b, off, cap, rfl, h1, h2, by have := hb.size; omega, fun i r hi => ?_⟩
    obtain ⟨a, c, g1, g2⟩ := h4 i r hi
    exact ⟨a, c, (hb.cell (p := ⟨b, off + i, none⟩) h3).trans g1, g2.all hb⟩
theorem RdP.len {w : World} {v : Value} {P : List (List Int)} (h : RdP w v P) : ∃ a cap, v = .slice a P.length cap ∧ P.length ≤ cap ∧ cap ≤ 9223372036854775807 := by
  rcases h with ⟨rfl, rfl⟩ | ⟨b, off, cap, rfl, h1, h2, _⟩
  · exact ⟨none, 0, rfl, Nat.le_refl _, by omega⟩
  · exact ⟨_, cap, rfl, h1, h2⟩
theorem RdP.at {w : World} {a : Option Addr} {n cap : Nat} {P : List (List Int)} (h : RdP w (.slice a n cap) P) (i : Nat) (r : List Int) (hi : P[i]? = some r) :
    ∃ b off, a = some ⟨b, off, none⟩ ∧ ∃ a' c, w.cell? ⟨b, off + i, none⟩ = some (.slice a' r.length c) ∧ r.length ≤ c ∧ c ≤ 9223372036854775807 ∧ RdV w (.slice a' r.length c) (r.map iw) := by
  rcases h with ⟨_, rfl⟩ | ⟨b, off, cap', e, h1, h2, h3, h4⟩
  · simp at hi
  · simp only [Value.slice.injEq] at e
    obtain ⟨rfl, -, -⟩ := e
    obtain ⟨a', c, g1, g2⟩ := h4 i r hi
    obtain ⟨a2, c2, e2, g3, g4⟩ := g2.len
    simp only [Value.slice.injEq] at e2
    obtain ⟨rfl, -, rfl⟩ := e2
    rw [List.length_map] at g3
    exact ⟨b, off, rfl, a', c, g1, g3, g4, g2⟩

/-- A profile of the call's own: its rows' slices in the block bc, the row i in the block g i. -/
structure PfAt (w : World) (lo bc : Nat) (g : Nat → Nat) (p : List (List Nat)) : Prop where
  rows : ∃ z : Array Value, w.heap[bc]? = some (.cells z 25 (0, 0)) ∧ ∀ (i : Nat) (l : List Nat), p[i]? = some l → z[i]? = some (.slice (some ⟨g i, 0, none⟩) l.length l.length)
  cells : ∀ (i : Nat) (l : List Nat), p[i]? = some l → ∃ z : Array Value, w.heap[g i]? = some (.cells z 3 (0, 0)) ∧ ∀ (k x : Nat), l[k]? = some x → z[k]? = some (iv x)
  inj : ∀ i j, i < p.length → j < p.length → g i = g j → i = j
  lob : lo ≤ bc
  log : ∀ i, i < p.length → lo ≤ g i
  len : p.length ≤ 1000
  rlen : ∀ l ∈ p, l.length ≤ 1000
  tl : ∀ l ∈ p, ∀ x ∈ l, x ≤ topN

theorem PfAt.bcl {w : World} {lo bc : Nat} {g : Nat → Nat} {p : List (List Nat)} (h : PfAt w lo bc g p) : bc < w.heap.size := by
  obtain ⟨z, h1, _⟩ := h.rows; exact (Array.getElem?_eq_some_iff.1 h1).1
theorem PfAt.gl {w : World} {lo bc : Nat} {g : Nat → Nat} {p : List (List Nat)} (h : PfAt w lo bc g p) (i : Nat) (hi : i < p.length) : g i < w.heap.size := by
  obtain ⟨z, h1, _⟩ := h.cells i _ (List.getElem?_eq_getElem hi); exact (Array.getElem?_eq_some_iff.1 h1).1
theorem PfAt.to {w w' : World} {lo bc : Nat} {g : Nat → Nat} {p : List (List Nat)} (h : PfAt w lo bc g p) (h1 : w'.heap[bc]? = w.heap[bc]?) (h2 : ∀ i, i < p.length → w'.heap[g i]? = w.heap[g i]?) : PfAt w' lo bc g p := by
  refine { h with rows := ?_, cells := ?_ }
  · rw [h1]; exact h.rows
  · intro i l hi; rw [h2 i (List.getElem?_eq_some_iff.1 hi).1]; exact h.cells i l hi
theorem PfAt.below {w w' : World} {lo bc B : Nat} {g : Nat → Nat} {p : List (List Nat)} (h : PfAt w lo bc g p) (hb : Below B w w') (hB : w.heap.size ≤ B) : PfAt w' lo bc g p :=
  h.to (hb.block _ (by have := h.bcl; omega)) fun i hi => hb.block _ (by have := h.gl i hi; omega)
theorem PfAt.ne {w : World} {lo bc : Nat} {g : Nat → Nat} {p : List (List Nat)} (h : PfAt w lo bc g p) (i : Nat) (hi : i < p.length) : g i ≠ bc := by
  obtain ⟨z, h1, _⟩ := h.cells i _ (List.getElem?_eq_getElem hi)
  obtain ⟨y, h2, _⟩ := h.rows
  intro e
  rw [e, h2] at h1
  simp at h1
theorem PfAt.row {w : World} {lo bc : Nat} {g : Nat → Nat} {p : List (List Nat)} (h : PfAt w lo bc g p) (i : Nat) (l : List Nat) (hi : p[i]? = some l) : w.cell? ⟨bc, i, none⟩ = some (.slice (some ⟨g i, 0, none⟩) l.length l.length) := by
  obtain ⟨z, h1, h2⟩ := h.rows
  rw [cell_of_row _ _ _ _ _ _ h1]; exact h2 i l hi
theorem PfAt.rd {w : World} {lo bc : Nat} {g : Nat → Nat} {p : List (List Nat)} (h : PfAt w lo bc g p) (i : Nat) (l : List Nat) (hi : p[i]? = some l) : RdV w (.slice (some ⟨g i, 0, none⟩) l.length l.length) (l.map iv) := by
  obtain ⟨z, h1, h2⟩ := h.cells i l hi
  have hlen := h.rlen l (List.mem_of_getElem? hi)
  refine .inr ⟨g i, 0, l.length, by rw [List.length_map], by rw [List.length_map]; exact Nat.le_refl _, by omega, (Array.getElem?_eq_some_iff.1 h1).1, fun j x hx => ?_⟩
  rw [Nat.zero_add, cell_of_row _ _ _ _ _ _ h1]
  rw [List.getElem?_map] at hx
  cases hj : l[j]? with
  | none => rw [hj] at hx; cases hx
  | some y => rw [hj] at hx; cases hx; exact h2 j y hj

/-- A profile of the call's own, of any numbers: its rows' slices in the block bc, the row i in the block g i. -/
structure RpAt (w : World) (lo bc : Nat) (g : Nat → Nat) (P : List (List Int)) : Prop where
  rows : ∃ z : Array Value, w.heap[bc]? = some (.cells z 25 (0, 0)) ∧ ∀ (i : Nat) (l : List Int), P[i]? = some l → z[i]? = some (.slice (some ⟨g i, 0, none⟩) l.length l.length)
  cells : ∀ (i : Nat) (l : List Int), P[i]? = some l → ∃ z : Array Value, w.heap[g i]? = some (.cells z 3 (0, 0)) ∧ ∀ (k : Nat) (x : Int), l[k]? = some x → z[k]? = some (iw x)
  inj : ∀ i j, i < P.length → j < P.length → g i = g j → i = j
  lob : lo ≤ bc
  log : ∀ i, i < P.length → lo ≤ g i
  len : P.length ≤ 1000
  rlen : ∀ l ∈ P, l.length ≤ 1000

theorem RpAt.bcl {w : World} {lo bc : Nat} {g : Nat → Nat} {P : List (List Int)} (h : RpAt w lo bc g P) : bc < w.heap.size := by
  obtain ⟨z, h1, _⟩ := h.rows; exact (Array.getElem?_eq_some_iff.1 h1).1
theorem RpAt.gl {w : World} {lo bc : Nat} {g : Nat → Nat} {P : List (List Int)} (h : RpAt w lo bc g P) (i : Nat) (hi : i < P.length) : g i < w.heap.size := by
  obtain ⟨z, h1, _⟩ := h.cells i _ (List.getElem?_eq_getElem hi); exact (Array.getElem?_eq_some_iff.1 h1).1
theorem RpAt.to {w w' : World} {lo bc : Nat} {g : Nat → Nat} {P : List (List Int)} (h : RpAt w lo bc g P) (h1 : w'.heap[bc]? = w.heap[bc]?) (h2 : ∀ i, i < P.length → w'.heap[g i]? = w.heap[g i]?) : RpAt w' lo bc g P := by
  refine { h with rows := ?_, cells := ?_ }
  · rw [h1]; exact h.rows
  · intro i l hi; rw [h2 i (List.getElem?_eq_some_iff.1 hi).1]; exact h.cells i l hi
theorem RpAt.below {w w' : World} {lo bc B : Nat} {g : Nat → Nat} {P : List (List Int)} (h : RpAt w lo bc g P) (hb : Below B w w') (hB : w.heap.size ≤ B) : RpAt w' lo bc g P :=
  h.to (hb.block _ (by have := h.bcl; omega)) fun i hi => hb.block _ (by have := h.gl i hi; omega)
theorem RpAt.ne {w : World} {lo bc : Nat} {g : Nat → Nat} {P : List (List Int)} (h : RpAt w lo bc g P) (i : Nat) (hi : i < P.length) : g i ≠ bc := by
  obtain ⟨z, h1, _⟩ := h.cells i _ (List.getElem?_eq_getElem hi)
  obtain ⟨y, h2, _⟩ := h.rows
  intro e
  rw [e, h2] at h1
  simp at h1
theorem RpAt.row {w : World} {lo bc : Nat} {g : Nat → Nat} {P : List (List Int)} (h : RpAt w lo bc g P) (i : Nat) (l : List Int) (hi : P[i]? = some l) : w.cell? ⟨bc, i, none⟩ = some (.slice (some ⟨g i, 0, none⟩) l.length l.length) := by
  obtain ⟨z, h1, h2⟩ := h.rows
  rw [cell_of_row _ _ _ _ _ _ h1]; exact h2 i l hi
theorem RpAt.rd {w : World} {lo bc : Nat} {g : Nat → Nat} {P : List (List Int)} (h : RpAt w lo bc g P) (i : Nat) (l : List Int) (hi : P[i]? = some l) : RdV w (.slice (some ⟨g i, 0, none⟩) l.length l.length) (l.map iw) := by
  obtain ⟨z, h1, h2⟩ := h.cells i l hi
  have hlen := h.rlen l (List.mem_of_getElem? hi)
  refine .inr ⟨g i, 0, l.length, by rw [List.length_map], by rw [List.length_map]; exact Nat.le_refl _, by omega, (Array.getElem?_eq_some_iff.1 h1).1, fun j x hx => ?_⟩
  rw [Nat.zero_add, cell_of_row _ _ _ _ _ _ h1]
  rw [List.getElem?_map] at hx
  cases hj : l[j]? with
  | none => rw [hj] at hx; cases hx
  | some y => rw [hj] at hx; cases hx; exact h2 j y hj

/-- Rows of noughts. -/
def zrow (n : Nat) : Array Value := (List.replicate n (Value.int .i64 0)).toArray
def nrow (n : Nat) : Array Value := (List.replicate n (Value.slice none 0 0)).toArray
theorem infoRows : (Try.prog.info? 25).map (fun i => (i.zero, i.size, i.bytes)) = some (some (.slice none 0 0), 1, 24) := by kernel_rfl
theorem mkints (w : World) (n : Nat) (hn : n ≤ 1000) : (Instr.makeSlice 25 (.int .i64 n) (.int .i64 n)).run Try.prog w = .ok (.slice (some ⟨w.heap.size, 0, none⟩) n n) (w.alloc (.cells (zrow n) 3)) := by
  obtain ⟨i, hi, hz0, hz1, hz2⟩ := info_parts Try.infoInt
  have := run_makeSlice (P := Try.prog) (w := w) 25 3 i _ Try.underlying25 hi hz0 .i64 .i64 n n (by omega) (Int.le_refl _) (by rw [hz1]; simp; omega) (by rw [hz2]; omega) (by omega)
  rw [this, hz1]
  have e : madeCells (Value.int .i64 0).cells ((n : Int).toNat * 1) = zrow n := by
    apply Array.ext'
    show (madeCells #[Value.int .i64 0] ((n : Int).toNat * 1)).toList = _
    rw [toList_madeCells_one]
    simp [zrow]
  rw [e]; rfl
theorem mkrows (w : World) (n : Nat) (hn : n ≤ 1000) : (Instr.makeSlice 29 (.int .i64 n) (.int .i64 n)).run Try.prog w = .ok (.slice (some ⟨w.heap.size, 0, none⟩) n n) (w.alloc (.cells (nrow n) 25)) := by
  obtain ⟨i, hi, hz0, hz1, hz2⟩ := info_parts infoRows
  have := run_makeSlice (P := Try.prog) (w := w) 29 25 i _ Try.underlying29 hi hz0 .i64 .i64 n n (by omega) (Int.le_refl _) (by rw [hz1]; simp; omega) (by rw [hz2]; omega) (by omega)
  rw [this, hz1]
  have e : madeCells (Value.slice none 0 0).cells ((n : Int).toNat * 1) = nrow n := by
    apply Array.ext'
    show (madeCells #[Value.slice none 0 0] ((n : Int).toNat * 1)).toList = _
    rw [toList_madeCells_one]
    simp [nrow]
  rw [e]; rfl

theorem heap_setCell_arr (w : World) (g j : Nat) (cs : Array Value) (t : TypeId) (fr : Nat × Nat) (v : Value) (hg : w.heap[g]? = some (.cells cs t fr)) : (w.setCell ⟨g, j, none⟩ v).heap[g]? = some (.cells (cs.setIfInBounds j v) t fr) := by
  obtain ⟨hlt, hk⟩ := Array.getElem?_eq_some_iff.1 hg
  show (w.heap.modify g _)[g]? = _
  rw [Array.getElem?_eq_getElem (by rw [Array.size_modify]; exact hlt), Array.getElem_modify_self, hk]
  simp

def bndL (r : List Int) : List Nat := r.map bnd
def bndP (P : List (List Int)) : List (List Nat) := P.map bndL
theorem int_size : (Try.prog.info? 3).map (·.size) = some 1 := by kernel_rfl

theorem set_get {α : Type} {p : List α} {i : Nat} {l : α} (h : i < p.length) : (p.set i l)[i]? = some l := by simp [h]
theorem set_same {α : Type} {p : List α} {i : Nat} {l : α} (h : p[i]? = some l) : p.set i l = p := by
  apply List.ext_getElem?
  intro j
  by_cases e : i = j
  · subst e
    rw [List.getElem?_set_self (List.getElem?_eq_some_iff.1 h).1, h]
  · rw [List.getElem?_set_ne e]
theorem RpAt.put {w : World} {lo bc : Nat} {g : Nat → Nat} {P : List (List Int)} {i q : Nat} {e : Int} {l : List Int} (h : RpAt w lo bc g P) (hl : P[i]? = some l) (hq : q < l.length) : RpAt (w.setCell ⟨g i, q, none⟩ (.int .i64 e)) lo bc g (P.set i (l.set q e)) := by
  have hi := (List.getElem?_eq_some_iff.1 hl).1
  have ho : ∀ b, b ≠ g i → (w.setCell ⟨g i, q, none⟩ (.int .i64 e)).heap[b]? = w.heap[b]? := fun b hb => Below.heap_setCell _ _ _ _ hb
  refine ⟨?_, fun j r hj => ?_, fun a b ha hb => h.inj a b (by simpa using ha) (by simpa using hb), h.lob, fun j hj => h.log j (by simpa using hj), by simpa using h.len, fun r hr => ?_⟩
  · obtain ⟨z, h1, h2⟩ := h.rows
    refine ⟨z, (ho _ (Ne.symm (h.ne i hi))).trans h1, fun j r hj => ?_⟩
    by_cases e2 : j = i
    · subst e2
      rw [set_get hi] at hj
      cases hj
      rw [List.length_set]
      exact h2 j l hl
    · rw [List.getElem?_set_ne (Ne.symm e2)] at hj
      exact h2 j r hj
  · by_cases e2 : j = i
    · subst e2
      rw [set_get hi] at hj
      cases hj
      obtain ⟨z, h1, h2⟩ := h.cells j l hl
      refine ⟨_, heap_setCell_arr _ _ _ _ _ _ _ h1, fun k x hx => ?_⟩
      have hqz := (Array.getElem?_eq_some_iff.1 (h2 q _ (List.getElem?_eq_getElem hq))).1
      by_cases e3 : q = k
      · subst e3
        rw [List.getElem?_set_self hq] at hx
        cases hx
        rw [Array.getElem?_setIfInBounds_self, if_pos hqz]
        rfl
      · rw [List.getElem?_set_ne e3] at hx
        rw [Array.getElem?_setIfInBounds_ne e3]
        exact h2 k x hx
    · rw [List.getElem?_set_ne (Ne.symm e2)] at hj
      obtain ⟨z, h1, h2⟩ := h.cells j r hj
      refine ⟨z, (ho _ fun e3 => e2 (h.inj j i (List.getElem?_eq_some_iff.1 hj).1 hi e3)).trans h1, h2⟩
  · rcases List.mem_or_eq_of_mem_set hr with hr | rfl
    · exact h.rlen r hr
    · rw [List.length_set]; exact h.rlen l (List.mem_of_getElem? hl)

/-- The rows' slices, as far as they are laid. -/
structure Slots (w : World) (bc n k : Nat) (g : Nat → Nat) (P : List (List Int)) : Prop where
  blk : ∃ z : Array Value, w.heap[bc]? = some (.cells z 25 (0, 0)) ∧ z.size = n ∧ ∀ (i : Nat) (r : List Int), i < k → P[i]? = some r → z[i]? = some (.slice (some ⟨g i, 0, none⟩) r.length r.length)
  cells : ∀ (i : Nat) (r : List Int), i < k → P[i]? = some r → ∃ z : Array Value, w.heap[g i]? = some (.cells z 3 (0, 0)) ∧ ∀ (j : Nat) (x : Int), r[j]? = some x → z[j]? = some (iw x)
theorem Slots.lt {w : World} {bc n k : Nat} {g : Nat → Nat} {P : List (List Int)} (h : Slots w bc n k g P) (hk : k ≤ P.length) : bc < w.heap.size ∧ ∀ i, i < k → g i < w.heap.size := by
  obtain ⟨z, h1, _⟩ := h.blk
  refine ⟨(Array.getElem?_eq_some_iff.1 h1).1, fun i hi => ?_⟩
  obtain ⟨y, h2, _⟩ := h.cells i _ hi (List.getElem?_eq_getElem (by omega))
  exact (Array.getElem?_eq_some_iff.1 h2).1
theorem splice_whole {Y cs : List Value} (h : Y.length = cs.length) : splice Y 0 cs = cs := by
  unfold splice
  simp [h]

/-- A copy into a row of the call's own. -/
theorem copy_run {P : Program} {w : World} (dT sT ty : TypeId) (elem : TypeId) (hu : P.underlying dT = some (.slice elem)) (hsz : (P.info? elem).map (·.size) = some 1)
    (sp : Option Addr) (dLen dCap sLen sCap : Nat) (g off : Nat) (cur : List Value) (t : TypeId) (hg : w.heap[g]? = some (.cells cur.toArray t (0, 0))) (cs : List Value) (hn : cs.length = Nat.min sLen dLen)
    (hpos : 0 < cs.length → ∃ ad, sp = some ad ∧ ∀ j v, cs[j]? = some v → w.cell? (ad.add j) = some v)
    (hfit : off + cs.length ≤ cur.length) (h1 : ∀ v ∈ cs, v.oneCell' = true) :
    ∃ w', (Builtin.copy_ #[dT, sT] ty #[.slice (some ⟨g, off, none⟩) dLen dCap, .slice sp sLen sCap]).run P w = .ok (goInt cs.length) w' ∧ w'.heap[g]? = some (.cells (splice cur off cs).toArray t (0, 0)) ∧ Below g w w' := by
  by_cases h0 : cs.length = 0
  · obtain rfl : cs = [] := List.eq_nil_of_length_eq_zero h0
    exact ⟨w, run_copy_none (P := P) w dT sT ty elem _ sp dLen dCap sLen sCap hu hsz (by simpa using hn.symm), (show _ = _ by simpa [splice] using hg), Below.refl _ _⟩
  · obtain ⟨ad, rfl, hsrc⟩ := hpos (by omega)
    exact ⟨_, run_copy_row (P := P) w dT sT ty elem g off dLen dCap ad sLen sCap cur.toArray t cs hu hsz hg hn hsrc (by simpa using hfit) h1, (show _ = _ by simpa [splice] using setRow_heap w g _ _ t _ hg), below_setRow (Below.refl _ _) (Nat.le_refl _) _⟩

set_option maxRecDepth 100000 in
set_option maxHeartbeats 8000000 in
theorem copied_any (w : World) (v : Value) (P : List (List Int)) (h : RdP w v P) (hl : P.length ≤ 1000) (hrl : ∀ r ∈ P, r.length ≤ 1000) :
    Calls Try.prog 29 #[v] w fun e w' => ∃ bc g, e = .returned (.slice (some ⟨bc, 0, none⟩) P.length P.length) ∧ RpAt w' w.heap.size bc g P ∧ Below w.heap.size w w' := by
  obtain ⟨a, cap, rfl, hc1, hc2⟩ := h.len
  have HH := hid h
  have hmk := mkrows w P.length hl
  generalize hZ : nrow P.length = Z at hmk
  have HZ := hid hZ
  obtain ⟨bc, hbc⟩ : ∃ bc, bc = w.heap.size := ⟨_, rfl⟩
  clear h hZ
  go_enter Try.func29, Try.ntmps29
  go_wp2_with fail
  have HB0 := hid (show Below w.heap.size w (w.alloc (.cells Z 25)) from (Below.refl _ w).alloc (Nat.le_refl _) _)
  have HS0 := hid (show Slots (w.alloc (.cells Z 25)) w.heap.size P.length 0 (fun i => i) P from ⟨⟨Z, heap_alloc_new w _, by rw [← HZ.out]; simp [nrow], fun i r hi => absurd hi (Nat.not_lt_zero _)⟩, fun i r hi => absurd hi (Nat.not_lt_zero _)⟩)
  rw [← hbc] at HS0 ⊢
  have HBC := hid hbc
  clear hmk hbc
  go_loopw [11] (fun i wr => ∃ (k : Nat) (g : Nat → Nat), k ≤ P.length ∧ i = .int .i64 k ∧ Slots wr bc P.length k g P ∧ (∀ i j, i < k → j < k → g i = g j → i = j) ∧ (∀ i, i < k → w.heap.size ≤ g i ∧ g i ≠ bc) ∧ Below w.heap.size w wr) (fun i _ => P.length - (intOf i).toNat)
  case atStart => exact ⟨0, fun i => i, Nat.zero_le _, rfl, HS0.out, (fun i j hi => absurd hi (Nat.not_lt_zero _)), (fun i hi => absurd hi (Nat.not_lt_zero _)), HB0.out⟩
  case round =>
    obtain ⟨k, g, hk, rfl, hS, hinj, hlow, hB⟩ := hrel
    have HS := hid hS
    have HIN := hid hinj
    have HLO := hid hlow
    have HB := hid hB
    have hsw := hB.size
    obtain ⟨hbl, hgl⟩ := hS.lt hk
    have HGL := hid hgl
    clear hS hinj hlow hgl
    by_cases hlt : k < P.length
    · obtain ⟨r, hr⟩ : ∃ r, P[k]? = some r := ⟨_, List.getElem?_eq_getElem hlt⟩
      have hrlen := hrl r (List.mem_of_getElem? hr)
      obtain ⟨b, off, rfl, a', c, hcell0, hrc1, hrc2, hrd0⟩ := HH.out.at k r hr
      have hcell : wr.cell? ⟨b, off + k, none⟩ = some (.slice a' r.length c) := (hB.cell (p := ⟨b, off + k, none⟩) (World.block_lt_of_cell? _ _ hcell0)).trans hcell0
      obtain ⟨z, hz1, hz2, hz3⟩ := HS.out.blk
      have hmk2 := mkints wr r.length hrlen
      generalize hY : zrow r.length = Y at hmk2
      have hYs : Y.size = r.length := by rw [← hY]; simp [zrow]
      have HYS := hid hYs
      have hki : (k : Int) < (P.length : Int) := by omega
      have hbA : Below wr.heap.size wr (wr.alloc (.cells Y 3)) := (Below.refl _ wr).alloc (Nat.le_refl _) _
      have hzA : (wr.alloc (.cells Y 3)).heap[bc]? = some (.cells z 25 (0, 0)) := (hbA.block bc hbl).trans hz1
      have hcA : ∃ u, (wr.alloc (.cells Y 3)).cell? ⟨bc, k, none⟩ = some u := by
        rw [cell_of_row _ _ _ _ _ _ hzA]
        exact ⟨_, Array.getElem?_eq_getElem (by omega)⟩
      obtain ⟨u, hcA⟩ := hcA
      have hfA : (wr.alloc (.cells Y 3)).frozen? ⟨bc, k, none⟩ = false := frozen_of_row _ _ _ _ _ hzA
      have HR := hid hr
      have HRD := hid hrd0
      have HBA := hid hbA
      have HZ1 := hid hz1
      have HZ2 := hid hz2
      have HZ3 := hid hz3
      clear hY hYs hr hrd0 hz1 hz2 hz3 hbA hzA hB hcell0
      go_upto_region 6 with (fail)
      obtain ⟨w1, hw1⟩ : ∃ w1, w1 = wr.setCell ⟨bc, k, none⟩ (.slice (some ⟨wr.heap.size, 0, none⟩) r.length r.length) := ⟨_, rfl⟩
      rw [← hw1]
      have hs1 : w1.heap.size = wr.heap.size := by rw [hw1]; simp [World.setCell]
      have hz1' : w1.heap[bc]? = some (.cells (z.setIfInBounds k (.slice (some ⟨wr.heap.size, 0, none⟩) r.length r.length)) 25 (0, 0)) := by rw [hw1]; exact heap_setCell_arr _ _ _ _ _ _ _ HZ1.out
      have hoth1 : ∀ q, q ≠ bc → w1.heap[q]? = wr.heap[q]? := fun q hq => by rw [hw1]; exact Below.heap_setCell _ _ _ _ hq
      have hB1 : Below w.heap.size w w1 := by
        rw [hw1]
        exact HB.out.setCell (by show w.heap.size ≤ bc; have := HBC.out; omega) _
      obtain ⟨w2, hw2⟩ : ∃ w2, w2 = w1.alloc (.cells Y 3) := ⟨_, rfl⟩
      rw [← hw2]
      have hz2' : w2.heap[bc]? = some (.cells (z.setIfInBounds k (.slice (some ⟨wr.heap.size, 0, none⟩) r.length r.length)) 25 (0, 0)) := by rw [hw2, Below.heap_alloc _ _ _ (by omega)]; exact hz1'
      have hoth : ∀ q, q < wr.heap.size → q ≠ bc → w2.heap[q]? = wr.heap[q]? := fun q hq hn => by rw [hw2, Below.heap_alloc _ _ _ (by omega)]; exact hoth1 q hn
      have hnew : w2.heap[wr.heap.size]? = some (.cells Y 3 (0, 0)) := by rw [hw2, ← hs1]; exact heap_alloc_new w1 _
      have hB2 : Below w.heap.size w w2 := by
        rw [hw2]
        exact hB1.alloc (by omega) _
      have hsz2 : wr.heap.size < w2.heap.size := by rw [hw2]; simp; omega
      obtain ⟨gn, hgn⟩ : ∃ gn, gn = wr.heap.size := ⟨_, rfl⟩
      rw [← hgn] at hz2' hnew hoth ⊢
      have hgbc : gn ≠ bc := by omega
      have hck : w2.cell? ⟨bc, k, none⟩ = some (.slice (some ⟨gn, 0, none⟩) r.length r.length) := by
        rw [cell_of_row _ _ _ _ _ _ hz2', Array.getElem?_setIfInBounds_self, if_pos (by have := HZ2.out; omega)]
      have hcp : 0 < (r.map iw).length → ∃ ad, a' = some ad ∧ ∀ j v, (r.map iw)[j]? = some v → w2.cell? (ad.add j) = some v := by
        intro hp
        rcases HRD.out with ⟨-, h0⟩ | ⟨b2, o2, c2, h1, h2, h3, h4, h5⟩
        · rw [h0] at hp; cases hp
        · simp only [Value.slice.injEq] at h1
          obtain ⟨rfl, -, -⟩ := h1
          refine ⟨_, rfl, fun j v hv => ?_⟩
          rw [Addr.add_lit]
          exact (hB2.cell (p := ⟨b2, o2 + j, none⟩) h4).trans (h5 j v hv)
      have hyl : Y.toList.length = (r.map iw).length := by rw [List.length_map]; have := HYS.out; simpa using this
      have HG2 := hid (show w2.heap[gn]? = some (.cells Y.toList.toArray 3 (0, 0)) by rw [Array.toArray_toList]; exact hnew)
      have HB2 := hid hB2
      have HN := hid (show (r.map iw).length = Nat.min r.length r.length by rw [List.length_map]; exact (Nat.min_self _).symm)
      have HCP := hid hcp
      have HFIT := hid (show 0 + (r.map iw).length ≤ Y.toList.length by omega)
      have HONE := hid (show ∀ v ∈ r.map iw, v.oneCell' = true by intro v hv; simp only [List.mem_map] at hv; obtain ⟨x, _, rfl⟩ := hv; rfl)
      have HBG := hid (show w2.heap.size = w2.heap.size ∧ wr.heap.size ≤ gn by omega)
      have HSPL := hid (splice_whole hyl)
      have HZ2' := hid hz2'
      have HOTH := hid hoth
      have HGE := hid hgn
      have hgl2 : gn < w2.heap.size := by have := HGE.out; omega
      clear hw1 hs1 hz1' hoth1 hB1 hw2 hz2' hoth hnew hcell hmk2 hcA hfA hcp hyl hB2 hgn
      obtain ⟨w3, hrun, hg3, hB3⟩ := copy_run (P := Try.prog) (w := w2) 25 25 3 3 Try.underlying25 int_size a' r.length r.length r.length c gn 0 Y.toList 3 HG2.out (r.map iw) HN.out HCP.out HFIT.out HONE.out
      rw [HSPL.out] at hg3
      have HB3 := hid hB3
      have HRUN := hid hrun
      clear hB3
      have ho3 : ∀ q, q < gn → w3.heap[q]? = w2.heap[q]? := fun q hq => HB3.out.block q hq
      have HS4 := hid (show Slots w3 bc P.length (k + 1) (fun i => if i = k then gn else g i) P by
        refine ⟨⟨_, (ho3 bc (by have := HGE.out; omega)).trans HZ2'.out, by simp [HZ2.out], fun i r' hi hr' => ?_⟩, fun i r' hi hr' => ?_⟩
        · by_cases e2 : i = k
          · subst e2
            rw [HR.out] at hr'
            cases hr'
            rw [if_pos rfl, Array.getElem?_setIfInBounds_self, if_pos (by have := HZ2.out; have := HGE.out; omega)]
          · rw [if_neg e2, Array.getElem?_setIfInBounds_ne (by have := HGE.out; omega)]
            exact HZ3.out i r' (by have := HGE.out; omega) hr'
        · by_cases e2 : i = k
          · subst e2
            rw [HR.out] at hr'
            cases hr'
            rw [if_pos rfl]
            exact ⟨_, hg3, fun j x hx => by simp [hx]⟩
          · rw [if_neg e2]
            have hgi := HGL.out i (by have := HGE.out; omega)
            rw [ho3 _ (by have := HGE.out; omega), HOTH.out _ (by have := HGE.out; omega) (HLO.out i (by have := HGE.out; omega)).2]
            exact HS.out.cells i r' (by have := HGE.out; omega) hr')
      have HB4 := hid (show Below w.heap.size w w3 from HB2.out.trans (HB3.out.mono (by have := HGE.out; omega)))
      have HNE := hid (show ∀ i, i < k → g i ≠ gn from fun i hi => by have := HGL.out i hi; have := HGE.out; omega)
      have HGN := hid (show w.heap.size ≤ gn by have := HGE.out; omega)
      clear hg3 ho3
      go_wp2
      go_roundw
      case rel => exact ⟨k + 1, fun i => if i = k then gn else g i, hlt, by go_num, HS4.out, (fun i j hi hj he => by
          dsimp only at he
          by_cases e1 : i = k
          · by_cases e2 : j = k
            · omega
            · rw [if_pos e1, if_neg e2] at he
              exact absurd he.symm (HNE.out j (by omega))
          · by_cases e2 : j = k
            · rw [if_neg e1, if_pos e2] at he
              exact absurd he (HNE.out i (by omega))
            · rw [if_neg e1, if_neg e2] at he
              exact HIN.out i j (by omega) (by omega) he), (fun i hi => by
          dsimp only
          by_cases e1 : i = k
          · rw [if_pos e1]; exact ⟨HGN.out, hgbc⟩
          · rw [if_neg e1]; exact HLO.out i (by omega)), HB4.out⟩
      case measure => simp [intOf]; omega
    · have e : k = P.length := by omega
      have hki : ¬ (k : Int) < (P.length : Int) := by omega
      have HQ := hid (show RpAt wr w.heap.size bc g P from ⟨⟨_, HS.out.blk.choose_spec.1, fun i l hi => HS.out.blk.choose_spec.2.2 i l (by have := (List.getElem?_eq_some_iff.1 hi).1; omega) hi⟩, fun i l hi => HS.out.cells i l (by have := (List.getElem?_eq_some_iff.1 hi).1; omega) hi, fun i j hi hj he => HIN.out i j (by omega) (by omega) he, by have := HBC.out; omega, fun i hi => (HLO.out i (by omega)).1, hl, hrl⟩)
      clear e hlt
      go_wp2
      go_ret
      exact ⟨bc, rfl, ⟨g, HQ.out⟩, HB.out⟩

def bdI (r : List Int) : List Int := r.map fun x => ((bnd x : Nat) : Int)
/-- The first q of them within their bounds. -/
def cutB (q : Nat) (r : List Int) : List Int := r.mapIdx fun j x => if j < q then ((bnd x : Nat) : Int) else x
def cutP (k : Nat) (P : List (List Int)) : List (List Int) := P.mapIdx fun i r => if i < k then bdI r else r
theorem cutB_len (q : Nat) (r : List Int) : (cutB q r).length = r.length := by simp [cutB]
theorem cutP_len (k : Nat) (P : List (List Int)) : (cutP k P).length = P.length := by simp [cutP]
theorem cutB_at {q j : Nat} {r : List Int} {x : Int} (h : r[j]? = some x) : (cutB q r)[j]? = some (if j < q then ((bnd x : Nat) : Int) else x) := by
  unfold cutB; rw [List.getElem?_mapIdx, h]; rfl
theorem cutP_at {k i : Nat} {P : List (List Int)} {r : List Int} (h : P[i]? = some r) : (cutP k P)[i]? = some (if i < k then bdI r else r) := by
  unfold cutP; rw [List.getElem?_mapIdx, h]; rfl
theorem cutB_zero (r : List Int) : cutB 0 r = r := by
  refine List.ext_getElem? fun j => ?_
  unfold cutB; rw [List.getElem?_mapIdx]
  cases r[j]? <;> rfl
theorem cutP_zero (P : List (List Int)) : cutP 0 P = P := by
  refine List.ext_getElem? fun j => ?_
  unfold cutP; rw [List.getElem?_mapIdx]
  cases P[j]? <;> rfl
theorem cutB_all (r : List Int) : cutB r.length r = bdI r := by
  refine List.ext_getElem? fun j => ?_
  unfold cutB bdI; rw [List.getElem?_mapIdx, List.getElem?_map]
  cases hx : r[j]? with
  | none => rfl
  | some x => rw [Option.map_some, Option.map_some, if_pos (List.getElem?_eq_some_iff.1 hx).1]
theorem cutP_all (P : List (List Int)) : cutP P.length P = P.map bdI := by
  refine List.ext_getElem? fun j => ?_
  unfold cutP; rw [List.getElem?_mapIdx, List.getElem?_map]
  cases hx : P[j]? with
  | none => rfl
  | some x => rw [Option.map_some, Option.map_some, if_pos (List.getElem?_eq_some_iff.1 hx).1]
theorem cutB_succ {q : Nat} {r : List Int} {x : Int} (h : r[q]? = some x) : (cutB q r).set q ((bnd x : Nat) : Int) = cutB (q + 1) r := by
  have hq := (List.getElem?_eq_some_iff.1 h).1
  refine List.ext_getElem? fun j => ?_
  by_cases e : q = j
  · subst e
    rw [List.getElem?_set_self (by rw [cutB_len]; exact hq), cutB_at h, if_pos (by omega)]
  · rw [List.getElem?_set_ne e]
    unfold cutB
    rw [List.getElem?_mapIdx, List.getElem?_mapIdx]
    cases r[j]? with
    | none => rfl
    | some y =>
      rw [Option.map_some, Option.map_some]
      by_cases h1 : j < q
      · rw [if_pos h1, if_pos (by omega)]
      · rw [if_neg h1, if_neg (by omega)]
theorem cutP_succ {k : Nat} {P : List (List Int)} {r : List Int} (h : P[k]? = some r) : (cutP k P).set k (bdI r) = cutP (k + 1) P := by
  have hq := (List.getElem?_eq_some_iff.1 h).1
  refine List.ext_getElem? fun j => ?_
  by_cases e : k = j
  · subst e
    rw [List.getElem?_set_self (by rw [cutP_len]; exact hq), cutP_at h, if_pos (by omega)]
  · rw [List.getElem?_set_ne e]
    unfold cutP
    rw [List.getElem?_mapIdx, List.getElem?_mapIdx]
    cases P[j]? with
    | none => rfl
    | some y =>
      rw [Option.map_some, Option.map_some]
      by_cases h1 : j < k
      · rw [if_pos h1, if_pos (by omega)]
      · rw [if_neg h1, if_neg (by omega)]
theorem PfAt.of_raw {w : World} {lo bc : Nat} {g : Nat → Nat} {P : List (List Int)} (h : RpAt w lo bc g (P.map bdI)) : PfAt w lo bc g (bndP P) := by
  have hll : (bndP P).length = (P.map bdI).length := by simp [bndP]
  have hmp : ∀ (i : Nat) (l : List Nat), (bndP P)[i]? = some l → ∃ r, (P.map bdI)[i]? = some (bdI r) ∧ l = bndL r := fun i l hi => by
    unfold bndP at hi
    rw [List.getElem?_map] at hi
    cases hr : P[i]? with
    | none => rw [hr] at hi; cases hi
    | some r => rw [hr] at hi; cases hi; exact ⟨r, by rw [List.getElem?_map, hr]; rfl, rfl⟩
  have hbl : ∀ r : List Int, (bndL r).length = (bdI r).length := fun r => by simp [bndL, bdI]
  refine ⟨?_, fun i l hi => ?_, fun i j hi hj he => h.inj i j (by omega) (by omega) he, h.lob, fun i hi => h.log i (by omega), by rw [hll]; exact h.len, fun l hm => ?_, fun l hm x hx => ?_⟩
  · obtain ⟨z, h1, h2⟩ := h.rows
    refine ⟨z, h1, fun i l hi => ?_⟩
    obtain ⟨r, hr, rfl⟩ := hmp i l hi
    rw [hbl]
    exact h2 i _ hr
  · obtain ⟨r, hr, rfl⟩ := hmp i l hi
    obtain ⟨y, hy1, hy2⟩ := h.cells i _ hr
    refine ⟨y, hy1, fun j x hx => ?_⟩
    unfold bndL at hx
    rw [List.getElem?_map] at hx
    cases hq : r[j]? with
    | none => rw [hq] at hx; cases hx
    | some n => rw [hq] at hx; cases hx; exact hy2 j _ (by unfold bdI; rw [List.getElem?_map, hq]; rfl)
  · obtain ⟨r, hr, rfl⟩ := List.mem_map.1 hm
    rw [hbl]
    exact h.rlen _ (List.mem_map_of_mem hr)
  · obtain ⟨r, hr, rfl⟩ := List.mem_map.1 hm
    obtain ⟨n, hn, rfl⟩ := List.mem_map.1 hx
    exact bnd_le n

set_option maxRecDepth 100000 in
set_option maxHeartbeats 8000000 in
theorem taken_any (w : World) (v : Value) (P : List (List Int)) (h : RdP w v P) (hl : P.length ≤ 1000) (hrl : ∀ r ∈ P, r.length ≤ 1000) :
    Calls Try.prog 25 #[v] w fun e w' => ∃ bc g, e = .returned (.slice (some ⟨bc, 0, none⟩) P.length P.length) ∧ PfAt w' w.heap.size bc g (bndP P) ∧ Below w.heap.size w w' := by
  have HC := hid (copied_any w v P h hl hrl)
  clear h
  go_enter Try.func25, Try.ntmps25
  go_wp2_with fail
  refine HC.out.mono ?_
  rintro e w1 ⟨bc, g, rfl, hr0, hb0⟩
  have HR0 := hid hr0
  have HB0 := hid hb0
  clear hr0 hb0 HC
  go_wp2_with fail
  go_loopw [12] (fun i wr => ∃ k : Nat, k ≤ P.length ∧ i = .int .i64 k ∧ RpAt wr w.heap.size bc g (cutP k P) ∧ Below w.heap.size w wr) (fun i _ => P.length - (intOf i).toNat)
  case atStart => exact ⟨0, Nat.zero_le _, rfl, by rw [cutP_zero]; exact HR0.out, HB0.out⟩
  case round =>
    obtain ⟨w2, hw2⟩ : ∃ y, y = wr := ⟨_, rfl⟩
    subst hw2
    obtain ⟨k, hk, rfl, hR, hB⟩ := hrel
    have HR := hid hR
    have HB := hid hB
    by_cases hlt : k < P.length
    · obtain ⟨r, hr⟩ : ∃ r, P[k]? = some r := ⟨_, List.getElem?_eq_getElem hlt⟩
      have hrlen := hrl r (List.mem_of_getElem? hr)
      have hck : (cutP k P)[k]? = some r := by rw [cutP_at hr, if_neg (Nat.lt_irrefl k)]
      have hcell : w2.cell? ⟨bc, k, none⟩ = some (.slice (some ⟨g k, 0, none⟩) r.length r.length) := hR.row k r hck
      have hki : (k : Int) < (P.length : Int) := by omega
      have HRR := hid hr
      have HCK := hid hck
      have HR1 := hid (show RpAt w2 w.heap.size bc g ((cutP k P).set k (cutB 0 r)) by rw [cutB_zero, set_same hck]; exact hR)
      clear hR hB hr hck
      go_wp2_with fail
      go_loopw [18] (fun i wr => ∃ q : Nat, q ≤ r.length ∧ i = .int .i64 q ∧ RpAt wr w.heap.size bc g ((cutP k P).set k (cutB q r)) ∧ Below w.heap.size w wr) (fun i _ => r.length - (intOf i).toNat)
      case atStart => exact ⟨0, Nat.zero_le _, rfl, HR1.out, HB.out⟩
      case round =>
        obtain ⟨q, hq, rfl, hR, hB⟩ := hrel
        have HR2 := hid hR
        have HB2 := hid hB
        by_cases hql : q < r.length
        · obtain ⟨x, hx⟩ : ∃ x, r[q]? = some x := ⟨_, List.getElem?_eq_getElem hql⟩
          have hpk : ((cutP k P).set k (cutB q r))[k]? = some (cutB q r) := set_get (by rw [cutP_len]; exact hlt)
          obtain ⟨z, hz1, hz2⟩ := hR.cells k _ hpk
          have hcx : wr.cell? ⟨g k, q, none⟩ = some (.int .i64 x) := by
            rw [cell_of_row _ _ _ _ _ _ hz1, hz2 q x (by rw [cutB_at hx, if_neg (Nat.lt_irrefl q)])]; rfl
          have hfx : wr.frozen? ⟨g k, q, none⟩ = false := frozen_of_row _ _ _ _ _ hz1
          have hqi : (q : Int) < (r.length : Int) := by omega
          have HP5 := hid (hR.put (e := ((bnd x : Nat) : Int)) hpk (show q < (cutB q r).length by rw [cutB_len]; exact hql))
          have HE5 := hid (show ((cutP k P).set k (cutB q r)).set k ((cutB q r).set q ((bnd x : Nat) : Int)) = (cutP k P).set k (cutB (q + 1) r) by rw [List.set_set, cutB_succ hx])
          have HK5 := hid (hB.setCell (p := ⟨g k, q, none⟩) (by show w.heap.size ≤ g k; exact hR.log k (by simp [cutP_len]; exact hlt)) (.int .i64 ((bnd x : Nat) : Int)))
          have HKB := hid (fun W => keepb_any x W)
          clear hR hB hz1 hz2 hpk hx
          generalize bnd x = n at *
          go_wp2_with (first | (go_at_call 32; refine (HKB.out _).mono ?_; rintro e w' ⟨rfl, rfl⟩) | fail)
          go_roundw
          case rel => exact ⟨q + 1, hql, by go_num, by rw [← HE5.out]; exact HP5.out, HK5.out⟩
          case measure => simp [intOf]; omega
        · have e : q = r.length := by omega
          have hqi : ¬ (q : Int) < (r.length : Int) := by omega
          have HR3 := hid (show RpAt wr w.heap.size bc g (cutP (k + 1) P) by rw [← cutP_succ HRR.out, ← cutB_all, ← e]; exact hR)
          clear hR hB e hql
          go_wp2
          go_roundw
          case rel => exact ⟨k + 1, hlt, by go_num, HR3.out, HB2.out⟩
          case measure => simp [intOf]; omega
    · have e : k = P.length := by omega
      have hki : ¬ (k : Int) < (P.length : Int) := by omega
      have HQ := hid (show PfAt w2 w.heap.size bc g (bndP P) from PfAt.of_raw (by rw [← cutP_all, ← e]; exact hR))
      clear e hlt hR hB
      go_wp2
      go_ret
      exact ⟨bc, rfl, ⟨g, HQ.out⟩, HB.out⟩

end Go.Proofs.Ytecojmpiaaehlaa
