/-
  RowsFill's two notes of its own: which nodes are taken, and who goes.
-/
import Derived.Test.YtlobnipeplnodaaRowF
import Derived.Test.YtlobnipeplnodaaMapB
namespace Go.Proofs.Ytlobnipeplnodaa
open Go.RowKit Go.Shelf
set_option linter.unusedVariables false

def tkCells (n : Nat) (tl : List Nat) : List Value := (List.range n).map fun x => Value.bool (decide (x ∈ tl))
theorem tkCells_set (n : Nat) (tl : List Nat) (x : Nat) : (tkCells n tl).set x (.bool true) = tkCells n (tl ++ [x]) := by
  unfold tkCells
  apply List.ext_getElem? fun i => ?_
  rw [List.getElem?_set]
  by_cases hi : i < n
  · by_cases e : x = i
    · subst e; simp [hi]
    · simp [e, hi, show i ≠ x by omega]
  · by_cases e : x = i
    · subst e; simp [hi]
    · simp [e, hi]
theorem tkCells_nil (n : Nat) : tkCells n [] = List.replicate n (.bool false) := by
  unfold tkCells
  simp [List.map_const']

structure FillAt (w : World) (b bt bm : Nat) (m : Mx) (v : Value) (L tl gl : List Nat) (wr : World) : Prop where
  mx : MxAt wr b m
  tk : wr.heap[bt]? = some (.cells (tkCells m.n tl).toArray 4 (0, 0))
  st : ∃ S : Int → Bool, SetAt 33 4 .u32 wr bm gl.length S ∧ ∀ j : Nat, S (j : Int) = decide (j ∈ gl)
  ls : wr.ownsRow (bm + 1) 33 1 v L.length (L.map uv)
  be : Below w.heap.size w wr
  or : w.heap.size ≤ b ∧ b < bt ∧ bt < bm ∧ bm < wr.heap.size

theorem FillAt.cell {w wr : World} {b bt bm : Nat} {m : Mx} {v : Value} {L tl gl : List Nat} (h : FillAt w b bt bm m v L tl gl wr) (x : Nat) (hx : x < m.n) : wr.cell? ⟨bt, x, none⟩ = some (.bool (decide (x ∈ tl))) := by
  rw [cell_of_row _ _ _ _ _ _ h.tk, List.getElem?_toArray]
  simp [tkCells, hx]

theorem FillAt.below {w wr w' : World} {b bt bm : Nat} {m : Mx} {v : Value} {L tl gl : List Nat} (h : FillAt w b bt bm m v L tl gl wr) (hb : Below wr.heap.size wr w') : FillAt w b bt bm m v L tl gl w' := by
  obtain ⟨S, hS, hSe⟩ := h.st
  have ho := h.or
  exact ⟨h.mx.below hb h.mx.lt, (hb.block bt (by omega)).trans h.tk, ⟨S, hS.block (hb.block bm (by omega)), hSe⟩, owns_below h.ls hb, h.be.trans (hb.mono h.be.size), ⟨ho.1, ho.2.1, ho.2.2.1, by have := hb.size; omega⟩⟩

theorem FillAt.tick {w wr : World} {b bt bm : Nat} {m : Mx} {v : Value} {L tl gl : List Nat} (h : FillAt w b bt bm m v L tl gl wr) (x : Nat) : FillAt w b bt bm m v L (tl ++ [x]) gl (wr.setCell ⟨bt, x, none⟩ (.bool true)) := by
  have k := (Keeps.refl (fun i => i = bt) wr).setCell (p := ⟨bt, x, none⟩) (fun _ => rfl) (.bool true)
  obtain ⟨S, hS, hSe⟩ := h.st
  have ho := h.or
  refine ⟨h.mx.block (k.block b h.mx.lt (by omega)), ?_, ⟨S, hS.block (k.block bm (by omega) (by omega)), hSe⟩, owns_by h.ls fun q hq => k.block q (World.ownsRow.lt h.ls q hq).2 (by have := (World.ownsRow.lt h.ls q hq).1; omega), h.be.trans (k.below h.be.size (fun i hi => by omega)), ⟨ho.1, ho.2.1, ho.2.2.1, by have := k.size; omega⟩⟩
  rw [heap_setCell_at _ _ _ _ _ _ _ h.tk, tkCells_set]

theorem FillAt.put {w wr w' : World} {b bt bm : Nat} {m : Mx} {v : Value} {L tl gl : List Nat} (h : FillAt w b bt bm m v L tl gl wr) (j : Nat) (S : Int → Bool) (hSe : ∀ j : Nat, S (j : Int) = decide (j ∈ gl))
    (hs : SetAt 33 4 .u32 w' bm (gl.length + 1) (fun y => if y = (j : Int) then true else S y)) (hg : wr.grownBy w' (some bm)) : FillAt w b bt bm m v L tl (gl ++ [j]) w' := by
  have k := Keeps.of_grown hg
  have ho := h.or
  refine ⟨h.mx.block (k.block b h.mx.lt (by intro e; cases e; omega)), (k.block bt (by omega) (by intro e; cases e; omega)).trans h.tk, ⟨_, by rw [List.length_append]; exact hs, fun j' => ?_⟩, owns_by h.ls fun q hq => k.block q (World.ownsRow.lt h.ls q hq).2 (by have := (World.ownsRow.lt h.ls q hq).1; intro e; have e2 := Option.some.inj e; omega), h.be.trans (k.below h.be.size (fun i hi => by cases hi; omega)), ⟨ho.1, ho.2.1, ho.2.2.1, by have := k.size; omega⟩⟩
  show (if (j' : Int) = (j : Int) then true else S (j' : Int)) = _
  by_cases e : j' = j
  · subst e; simp
  · rw [if_neg (by omega), hSe]
    simp [e]

theorem mkbool12 (n : Nat) (h : n ≤ 16) (w : World) : (Instr.makeSlice 47 (.int .i64 (n : Int)) (.int .i64 (n : Int))).run Try.prog w = .ok (.slice (some ⟨w.heap.size, 0, none⟩) n n) (w.alloc (.cells (tkCells n []).toArray 4)) := by
  have hinfo : (Try.prog.info? 4).map (fun i => (i.zero, i.size, i.bytes)) = some (some (.bool false), 1, 1) := by kernel_rfl
  obtain ⟨i, hi, hz0, hz1, hz2⟩ := info_parts hinfo
  have := run_makeSlice (P := Try.prog) (w := w) 47 4 i _ Try.underlying47 hi hz0 .i64 .i64 n n (by omega) (Int.le_refl _) (by rw [hz1]; simp; omega) (by rw [hz2]; omega) (by omega)
  rw [this, hz1]
  simp only [Int.toNat_natCast]
  have e : madeCells (Value.bool false).cells (n * 1) = (tkCells n []).toArray := by
    rw [Nat.mul_one, tkCells_nil]
    apply Array.toList_inj.1
    show (madeCells #[Value.bool false] n).toList = _
    rw [toList_madeCells_one]
  rw [e]

theorem FillAt.start {w wc w5 : World} {b : Nat} {m : Mx} {v : Value} {L : List Nat} (hmx : MxAt wc b m) (hor : w.heap.size ≤ b ∧ b < wc.heap.size) (hbe : Below w.heap.size w wc)
    (h5 : Below (wc.heap.size + 1 + 1) ((wc.alloc (.cells (tkCells m.n []).toArray 4)).alloc (.map #[] 0)) w5) (hv : w5.ownsRow (wc.heap.size + 1 + 1) 33 1 v L.length (L.map uv)) : FillAt w b wc.heap.size (wc.heap.size + 1) m v L [] [] w5 := by
  have k2 : Keeps (fun _ => False) wc ((wc.alloc (.cells (tkCells m.n []).toArray 4)).alloc (.map #[] 0)) := ((Keeps.refl _ wc).alloc _).alloc _
  have s1 : (wc.alloc (.cells (tkCells m.n []).toArray 4)).heap.size = wc.heap.size + 1 := World.size_alloc _ _
  have s2 : ((wc.alloc (.cells (tkCells m.n []).toArray 4)).alloc (.map #[] 0)).heap.size = wc.heap.size + 1 + 1 := by rw [World.size_alloc, s1]
  have h5b := h5.size
  rw [s2] at h5b
  have hset := SetAt.new 33 4 .u32 (wc.alloc (.cells (tkCells m.n []).toArray 4))
  rw [s1] at hset
  refine ⟨hmx.block ((h5.block b (by omega)).trans (k2.block b hor.2 id)), ?_, ⟨_, hset.block (h5.block _ (by omega)), fun j => by simp⟩, hv, hbe.trans ((k2.below hbe.size (fun i hi => hi.elim)).trans (h5.mono (by omega))), ⟨hor.1, hor.2, by omega, by omega⟩⟩
  rw [h5.block _ (by omega), ((Keeps.refl (fun _ => False) (wc.alloc (.cells (tkCells m.n []).toArray 4))).alloc (.map #[] 0)).block wc.heap.size (by omega) id]
  exact heap_alloc_new wc _

end Go.Proofs.Ytlobnipeplnodaa
