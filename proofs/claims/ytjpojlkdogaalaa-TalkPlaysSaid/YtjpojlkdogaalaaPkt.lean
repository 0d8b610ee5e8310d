/-
  Packets' cells: loaded, stored, answered whole.
-/
import Derived.Test.YtjpojlkdogaalaaKit
import Derived.Laws.Rows
import Derived.Laws.Tables
import Derived.Laws.ResultCell
namespace Go.Proofs.Ytjpojlkdogaalaa
open Go.RowKit
set_option linter.unusedVariables false

abbrev PT : TypeId := 31

theorem size_packet : (Try.prog.info? 31).map (·.size) = some 7 := by kernel_rfl

theorem setRow_below {w : World} {B g : Nat} (cs : Array Value) (hg : B ≤ g) : Below B w (w.setRow g cs) :=
  ⟨rfl, rfl, rfl, by simp, fun k hk => setRow_other w g k cs (by omega)⟩

theorem setRow_keeps (w : World) (g : Nat) (cs : Array Value) : Keeps (fun k => k = g) w (w.setRow g cs) :=
  ⟨rfl, rfl, rfl, by simp, fun k _ hk => setRow_other w g k cs hk⟩

/-- A block that holds a packet. -/
def PkB (w : World) (g : Nat) : Prop := ∃ c0 c1 c2 c3 c4 c5 c6 : Value, w.heap[g]? = some (.cells #[c0, c1, c2, c3, c4, c5, c6] 31 (0, 0))

theorem PkB.below {w w' : World} {g : Nat} (h : PkB w g) (hb : Below w.heap.size w w') : PkB w' g :=
  let ⟨c0, c1, c2, c3, c4, c5, c6, e⟩ := h
  ⟨c0, c1, c2, c3, c4, c5, c6, (hb.block g (Array.getElem?_eq_some_iff.1 e).1).trans e⟩

theorem PkB.of {w w' : World} {g : Nat} (h : PkB w g) (hk : w'.heap[g]? = w.heap[g]?) : PkB w' g :=
  let ⟨c0, c1, c2, c3, c4, c5, c6, e⟩ := h
  ⟨c0, c1, c2, c3, c4, c5, c6, hk.trans e⟩

theorem PkB.lt {w : World} {g : Nat} (h : PkB w g) : g < w.heap.size := by
  obtain ⟨c0, c1, c2, c3, c4, c5, c6, e⟩ := h
  exact (Array.getElem?_eq_some_iff.1 e).1

theorem PkB.row {w : World} {g : Nat} (h : PkB w g) (c0 c1 c2 c3 c4 c5 c6 : Value) : (w.setRow g #[c0, c1, c2, c3, c4, c5, c6]).heap[g]? = some (.cells #[c0, c1, c2, c3, c4, c5, c6] 31 (0, 0)) := by
  obtain ⟨d0, d1, d2, d3, d4, d5, d6, e⟩ := h
  exact setRow_heap w g _ _ _ _ e

section
variable {w : World} {ops : Array Oper} {rest : List Oper} {o : Oper} {a : Act} {Q : Exit → Act → World → Prop}

/-- A packet is stored: as a step of a region that draws. -/
theorem pk_sd {K : Act → World → Prop} {E : Prop} (hw : Region.wanted o (yielded ops a.tmps) = true) (x y : Operand) (ho : o.op = .store 31 x y)
    (g : Nat) (c0 c1 c2 c3 c4 c5 c6 : Value) (hx : a.eval x = .pointer (some ⟨g, 0, none⟩)) (hy : a.eval y = .agg #[c0, c1, c2, c3, c4, c5, c6]) (hg : PkB w g) (h1 : (#[c0, c1, c2, c3, c4, c5, c6] : Array Value).all (·.oneCell') = true)
    (h : K (a.put o.dst undef) (w.setRow g #[c0, c1, c2, c3, c4, c5, c6])) : if Region.wanted o (yielded ops a.tmps) = true then Oper.wp Try.prog o a w K Q else E := by
  rw [if_pos hw]
  obtain ⟨d0, d1, d2, d3, d4, d5, d6, e⟩ := hg
  exact wp_store_row _ x y ho g _ hx hy _ _ e (by rw [size_packet]; rfl) rfl h1 h

/-- And as one of a row. -/
theorem pk_st (hgd : o.guard = none) (x y : Operand) (ho : o.op = .store 31 x y)
    (g : Nat) (c0 c1 c2 c3 c4 c5 c6 : Value) (hx : a.eval x = .pointer (some ⟨g, 0, none⟩)) (hy : a.eval y = .agg #[c0, c1, c2, c3, c4, c5, c6]) (hg : PkB w g) (h1 : (#[c0, c1, c2, c3, c4, c5, c6] : Array Value).all (·.oneCell') = true)
    (h : wpList Try.prog ops Q rest (a.put o.dst undef) (w.setRow g #[c0, c1, c2, c3, c4, c5, c6])) : wpList Try.prog ops Q (o :: rest) a w := by
  obtain ⟨d0, d1, d2, d3, d4, d5, d6, e⟩ := hg
  exact wpList_store_row hgd _ x y ho g _ hx hy _ _ e (by rw [size_packet]; rfl) rfl h1 h

/-- A packet is loaded whole. -/
theorem pk_ld (hgd : o.guard = none) (x : Operand) (ho : o.op = .load 31 x)
    (g : Nat) (hx : a.eval x = .pointer (some ⟨g, 0, none⟩)) (c0 c1 c2 c3 c4 c5 c6 : Value) (hg : w.heap[g]? = some (.cells #[c0, c1, c2, c3, c4, c5, c6] 31 (0, 0)))
    (h : wpList Try.prog ops Q rest (a.put o.dst (.agg #[c0, c1, c2, c3, c4, c5, c6])) w) : wpList Try.prog ops Q (o :: rest) a w :=
  wpList_load_row hgd _ x ho g hx _ _ (0, 0) _ hg Try.underlying31 rfl (by rw [size_packet]; rfl) h
end

/-- A packet stored in a block that holds one. -/
theorem pk_run {w : World} {g : Nat} (hg : PkB w g) (c0 c1 c2 c3 c4 c5 c6 : Value) (h1 : (#[c0, c1, c2, c3, c4, c5, c6] : Array Value).all (·.oneCell') = true) :
    (storeVar 31 ⟨g, 0, none⟩ (.agg #[c0, c1, c2, c3, c4, c5, c6])).run Try.prog w = .ok () (w.setRow g #[c0, c1, c2, c3, c4, c5, c6]) := by
  obtain ⟨d0, d1, d2, d3, d4, d5, d6, e⟩ := hg
  exact run_storeVar_row w g _ _ _ _ e (by rw [size_packet]; rfl) rfl h1

/-- A packet stored, whatever operation does it. -/
theorem pk_wp {w : World} {g : Nat} (hg : PkB w g) (x y : Operand) (c0 c1 c2 c3 c4 c5 c6 : Value) (h1 : (#[c0, c1, c2, c3, c4, c5, c6] : Array Value).all (·.oneCell') = true) :
    ∀ (o : Oper) (a : Act) (K : Act → World → Prop) (Q : Exit → Act → World → Prop), o.op = .store 31 x y → a.eval x = .pointer (some ⟨g, 0, none⟩) → a.eval y = .agg #[c0, c1, c2, c3, c4, c5, c6] →
      o.wp Try.prog a w K Q = K (a.put o.dst undef) (w.setRow g #[c0, c1, c2, c3, c4, c5, c6]) := by
  intro o a K Q ho hx hy
  have h := pk_run hg c0 c1 c2 c3 c4 c5 c6 h1
  unfold Oper.wp execOp
  simp only [ho, hx, hy, Instr.storeAt, Instr.sureAddr, Sem.run_bind, Sem.run_pure, Result.andThen_ok, h]
  rfl

/-- Seven cells written one by one are a row set; other blocks are as they were. -/
theorem pk_cells {w : World} {g : Nat} (hg : PkB w g) (c0 c1 c2 c3 c4 c5 c6 : Value) :
    (((((((w.setCell ⟨g, 0, none⟩ c0).setCell ⟨g, 1, none⟩ c1).setCell ⟨g, 2, none⟩ c2).setCell ⟨g, 3, none⟩ c3).setCell ⟨g, 4, none⟩ c4).setCell ⟨g, 5, none⟩ c5).setCell ⟨g, 6, none⟩ c6).heap[g]? = some (.cells #[c0, c1, c2, c3, c4, c5, c6] 31 (0, 0)) := by
  obtain ⟨d0, d1, d2, d3, d4, d5, d6, e⟩ := hg
  rw [heap_setCell_same _ _ _ _ _ _ (heap_setCell_same _ _ _ _ _ _ (heap_setCell_same _ _ _ _ _ _ (heap_setCell_same _ _ _ _ _ _ (heap_setCell_same _ _ _ _ _ _ (heap_setCell_same _ _ _ _ _ _ (heap_setCell_same _ _ _ _ _ _ e))))))]
  simp

theorem cell_out7 {w : World} {g b : Nat} (h : b ≠ g) (c0 c1 c2 c3 c4 c5 c6 : Value) (j : Nat) {u : Option Value} (hu : w.cell? ⟨b, j, none⟩ = u) :
    (((((((w.setCell ⟨g, 0, none⟩ c0).setCell ⟨g, 1, none⟩ c1).setCell ⟨g, 2, none⟩ c2).setCell ⟨g, 3, none⟩ c3).setCell ⟨g, 4, none⟩ c4).setCell ⟨g, 5, none⟩ c5).setCell ⟨g, 6, none⟩ c6).cell? ⟨b, j, none⟩ = u := by
  have hn : ∀ k, (⟨g, k, none⟩ : Addr) ≠ ⟨b, j, none⟩ := fun k e => h (by rw [Addr.mk.injEq] at e; exact e.1.symm)
  have hc : ∀ (w : World) k v, (w.setCell ⟨g, k, none⟩ v).cell? ⟨b, j, none⟩ = w.cell? ⟨b, j, none⟩ := fun w k v => by
    apply World.cell?_setCell_other
    exact hn k
  rw [hc, hc, hc, hc, hc, hc, hc, hu]

theorem keeps_out7 {w : World} {g : Nat} (c0 c1 c2 c3 c4 c5 c6 : Value) : Keeps (fun k => k = g) w (((((((w.setCell ⟨g, 0, none⟩ c0).setCell ⟨g, 1, none⟩ c1).setCell ⟨g, 2, none⟩ c2).setCell ⟨g, 3, none⟩ c3).setCell ⟨g, 4, none⟩ c4).setCell ⟨g, 5, none⟩ c5).setCell ⟨g, 6, none⟩ c6) :=
  (((((((Keeps.refl (fun k => k = g) w).setCell (p := ⟨g, 0, none⟩) (fun _ => rfl) _).setCell (p := ⟨g, 1, none⟩) (fun _ => rfl) _).setCell (p := ⟨g, 2, none⟩) (fun _ => rfl) _).setCell (p := ⟨g, 3, none⟩) (fun _ => rfl) _).setCell (p := ⟨g, 4, none⟩) (fun _ => rfl) _).setCell (p := ⟨g, 5, none⟩) (fun _ => rfl) _).setCell (p := ⟨g, 6, none⟩) (fun _ => rfl) _

/-- Its cells, and that none is frozen. -/
theorem PkB.facts {w : World} {g : Nat} (h : PkB w g) : (∃ c0 c1 c2 c3 c4 c5 c6 : Value, w.cell? ⟨g, 0, none⟩ = some c0 ∧ w.cell? ⟨g, 1, none⟩ = some c1 ∧ w.cell? ⟨g, 2, none⟩ = some c2 ∧ w.cell? ⟨g, 3, none⟩ = some c3 ∧ w.cell? ⟨g, 4, none⟩ = some c4 ∧ w.cell? ⟨g, 5, none⟩ = some c5 ∧ w.cell? ⟨g, 6, none⟩ = some c6) ∧ ∀ j, w.frozen? ⟨g, j, none⟩ = false := by
  obtain ⟨d0, d1, d2, d3, d4, d5, d6, e⟩ := h
  refine ⟨⟨d0, d1, d2, d3, d4, d5, d6, ?_⟩, fun j => frozen_of_row _ _ _ _ _ e⟩
  exact ⟨(cell_of_row _ _ _ _ _ _ e).trans rfl, (cell_of_row _ _ _ _ _ _ e).trans rfl, (cell_of_row _ _ _ _ _ _ e).trans rfl, (cell_of_row _ _ _ _ _ _ e).trans rfl, (cell_of_row _ _ _ _ _ _ e).trans rfl, (cell_of_row _ _ _ _ _ _ e).trans rfl, (cell_of_row _ _ _ _ _ _ e).trans rfl⟩

theorem loadPk (w : World) (g : Nat) (c0 c1 c2 c3 c4 c5 c6 : Value) (hg : w.heap[g]? = some (.cells #[c0, c1, c2, c3, c4, c5, c6] 31 (0, 0))) :
    (loadVar 31 ⟨g, 0, none⟩).run Try.prog w = .ok (.agg #[c0, c1, c2, c3, c4, c5, c6]) w :=
  run_loadVar_row w g _ _ _ (0, 0) _ hg Try.underlying31 rfl (by rw [size_packet]; rfl)

theorem results_pk {fn : Func} {p : Tmp} (h : fn.results = #[.cell p 31]) (tmps : Array Value) (w : World) (g : Nat) (c0 c1 c2 c3 c4 c5 c6 : Value)
    (hp : tmps.getD p undef = .pointer (some ⟨g, 0, none⟩)) (hg : w.heap[g]? = some (.cells #[c0, c1, c2, c3, c4, c5, c6] 31 (0, 0))) :
    (results fn tmps).run Try.prog w = .ok (.agg #[c0, c1, c2, c3, c4, c5, c6]) w := by
  have hl := loadPk w g c0 c1 c2 c3 c4 c5 c6 hg
  simp at hp
  simp only [results, h]
  simp [hp, asAddr, hl]

theorem results_pk2 {fn : Func} {p u : Tmp} (h : fn.results = #[.cell p 31, .tmp u]) (tmps : Array Value) (w : World) (v : Value) (g : Nat) (c0 c1 c2 c3 c4 c5 c6 : Value)
    (hp : tmps.getD p undef = .pointer (some ⟨g, 0, none⟩)) (hv : tmps.getD u undef = v) (hg : w.heap[g]? = some (.cells #[c0, c1, c2, c3, c4, c5, c6] 31 (0, 0))) :
    (results fn tmps).run Try.prog w = .ok (.tuple #[.agg #[c0, c1, c2, c3, c4, c5, c6], v]) w := by
  have hl := loadPk w g c0 c1 c2 c3 c4 c5 c6 hg
  simp at hp hv
  simp only [results, h]
  simp [Result.andThen, hp, hv, asAddr, hl]

theorem results_pk4 {fn : Func} {p u x y : Tmp} (h : fn.results = #[.tmp x, .tmp y, .cell p 31, .tmp u]) (tmps : Array Value) (w : World) (v vx vy : Value) (g : Nat) (c0 c1 c2 c3 c4 c5 c6 : Value)
    (hx : tmps.getD x undef = vx) (hy : tmps.getD y undef = vy) (hp : tmps.getD p undef = .pointer (some ⟨g, 0, none⟩)) (hv : tmps.getD u undef = v) (hg : w.heap[g]? = some (.cells #[c0, c1, c2, c3, c4, c5, c6] 31 (0, 0))) :
    (results fn tmps).run Try.prog w = .ok (.tuple #[vx, vy, .agg #[c0, c1, c2, c3, c4, c5, c6], v]) w := by
  have hl := loadPk w g c0 c1 c2 c3 c4 c5 c6 hg
  simp at hp hv hx hy
  simp only [results, h]
  simp [Result.andThen, hp, hv, hx, hy, asAddr, hl]

end Go.Proofs.Ytjpojlkdogaalaa
