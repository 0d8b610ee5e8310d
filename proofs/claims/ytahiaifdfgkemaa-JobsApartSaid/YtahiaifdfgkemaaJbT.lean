/-
  A table of jobs: plainly, and where it lies.
-/
import Derived.Test.YtahiaifdfgkemaaJbD
import Derived.Test.YtahiaifdfgkemaaInw
namespace Go.Proofs.Ytahiaifdfgkemaa
open Go.RowKit
set_option linter.unusedVariables false

structure Tb where
  n : Nat
  last : Nat
  act : List Jb
  over : List Jb
  rs : List Note.R
def rcel (x : Note.R) : List Value := [.int .u8 (x.cl : Int), .int .u32 (x.s : Int), .int .i64 x.e, .int .u32 (x.j : Int), .int .u8 (x.st : Int), .int .i64 x.c]
def rcels (l : List Note.R) : List Value := l.flatMap rcel
def tcel (t : Tb) (va vo : Value) : List Value := .int .i64 (t.n : Int) :: .int .u32 (t.last : Int) :: va :: vo :: rcels t.rs
theorem rcels_cons (x : Note.R) (l : List Note.R) : rcels (x :: l) = rcel x ++ rcels l := rfl
theorem rcels_len (l : List Note.R) : (rcels l).length = l.length * 6 := by
  induction l with
  | nil => rfl
  | cons x l ih => rw [rcels_cons, List.length_append, ih, List.length_cons]; show 6 + _ = _; omega
theorem rcels_at : ∀ (l : List Note.R) (k : Nat) (x : Note.R) (c : Nat) (v : Value), l[k]? = some x → (rcel x)[c]? = some v → (rcels l)[k * 6 + c]? = some v
  | x :: l, 0, y, c, v, h, hv => by
    simp at h; subst h
    have hc : c < 6 := (List.getElem?_eq_some_iff.1 hv).1
    rw [rcels_cons, List.getElem?_append_left (by show 0 * 6 + c < 6; omega)]
    simpa using hv
  | x :: l, k + 1, y, c, v, h, hv => by
    have e : (k + 1) * 6 + c = 6 + (k * 6 + c) := by omega
    rw [rcels_cons, e, List.getElem?_append_right (by show 6 ≤ _; omega)]
    show (rcels l)[6 + (k * 6 + c) - 6]? = _
    rw [Nat.add_sub_cancel_left]
    exact rcels_at l k y c v (by simpa using h) hv

structure TbAt (w : World) (lo b : Nat) (va vo : Value) (t : Tb) : Prop where
  blk : w.heap[b]? = some (.cells (tcel t va vo).toArray 58 (0, 0))
  oa : OwnJ w lo va t.act
  oo : OwnJ w lo vo t.over
  ap : ∀ k, va.ownBlock = some k → vo.ownBlock ≠ some k
  lob : lo ≤ b
  la : t.act.length ≤ 1000
  lv : t.over.length ≤ 1000
  r8 : t.rs.length = 8
/-- The blocks of a table. -/
def Tk (b : Nat) (va vo : Value) (k : Nat) : Prop := k = b ∨ va.ownBlock = some k ∨ vo.ownBlock = some k
/-- What a call leaves: the table, and all else as it was. -/
structure Stp (w : World) (lo b : Nat) (va vo : Value) (w' : World) (va' vo' : Value) (t' : Tb) : Prop where
  tb : TbAt w' lo b va' vo' t'
  k : Keeps (Tk b va vo) w w'
  na : ∀ k, va'.ownBlock = some k → va.ownBlock = some k ∨ w.heap.size ≤ k
  no : ∀ k, vo'.ownBlock = some k → vo.ownBlock = some k ∨ w.heap.size ≤ k
section
variable {w w' w'' : World} {lo b : Nat} {va vo va' vo' va'' vo'' : Value} {t t' t'' : Tb}
theorem TbAt.lt (h : TbAt w lo b va vo t) : b < w.heap.size := (Array.getElem?_eq_some_iff.1 h.blk).1
theorem TbAt.tk_lt (h : TbAt w lo b va vo t) {k : Nat} (hk : Tk b va vo k) : lo ≤ k ∧ k < w.heap.size := by
  rcases hk with rfl | e | e
  · exact ⟨h.lob, h.lt⟩
  · exact World.ownsRow.lt h.oa k e
  · exact World.ownsRow.lt h.oo k e
theorem TbAt.keeps {S : Nat → Prop} (h : TbAt w lo b va vo t) (hk : Keeps S w w') (hS : ∀ k, Tk b va vo k → ¬ S k) : TbAt w' lo b va vo t :=
  { h with blk := (hk.block b h.lt (hS b (.inl rfl))).trans h.blk, oa := owns_by h.oa fun k e => hk.block k (World.ownsRow.lt h.oa k e).2 (hS k (.inr (.inl e))), oo := owns_by h.oo fun k e => hk.block k (World.ownsRow.lt h.oo k e).2 (hS k (.inr (.inr e))) }
theorem TbAt.below (h : TbAt w lo b va vo t) (hb : Below w.heap.size w w') : TbAt w' lo b va vo t :=
  { h with blk := (hb.block b h.lt).trans h.blk, oa := owns_below h.oa hb, oo := owns_below h.oo hb }
theorem TbAt.ne_a (h : TbAt w lo b va vo t) : ∀ k, va.ownBlock = some k → k ≠ b := owns_ne h.oa h.blk (by decide)
theorem TbAt.ne_o (h : TbAt w lo b va vo t) : ∀ k, vo.ownBlock = some k → k ≠ b := owns_ne h.oo h.blk (by decide)
theorem Stp.of_below (h : TbAt w lo b va vo t) (hb : Below w.heap.size w w') : Stp w lo b va vo w' va vo t :=
  ⟨h.below hb, Keeps.of_below (S := Tk b va vo) hb (fun i hi hge => absurd hi (by omega)), fun k e => .inl e, fun k e => .inl e⟩
theorem Stp.trans (h : Stp w lo b va vo w' va' vo' t') (h' : Stp w' lo b va' vo' w'' va'' vo'' t'') : Stp w lo b va vo w'' va'' vo'' t'' := by
  refine ⟨h'.tb, h.k.trans' h'.k ?_, fun k e => ?_, fun k e => ?_⟩
  · rintro i hi (e | e | e)
    · exact .inl e
    · rcases h.na i e with e | e
      · exact .inr (.inl e)
      · omega
    · rcases h.no i e with e | e
      · exact .inr (.inr e)
      · omega
  · rcases h'.na k e with e | e
    · exact h.na k e
    · exact .inr (Nat.le_trans h.k.size e)
  · rcases h'.no k e with e | e
    · exact h.no k e
    · exact .inr (Nat.le_trans h.k.size e)
theorem Stp.behind {w0 : World} (h : Stp w' lo b va vo w'' va'' vo'' t'') (h0 : TbAt w0 lo b va vo t) (hb : Below w0.heap.size w0 w') : Stp w0 lo b va vo w'' va'' vo'' t'' := (Stp.of_below h0 hb).trans h
theorem Stp.below (h : Stp w lo b va vo w' va' vo' t') (hb : Below w'.heap.size w' w'') : Stp w lo b va vo w'' va' vo' t' := h.trans (Stp.of_below h.tb hb)
theorem Stp.bel (h : Stp w lo b va vo w' va' vo' t') (h0 : TbAt w lo b va vo t) {a : World} {B : Nat} (ha : Below B a w) (hB : B ≤ lo) (hs : B ≤ w.heap.size) : Below B a w' :=
  ha.trans ⟨h.k.os, h.k.tape, h.k.output, h.k.size, fun k hk => h.k.block k (by omega) (fun e => by have := (h0.tk_lt e).1; omega)⟩
theorem TbAt.c0 (h : TbAt w lo b va vo t) : w.cell? ⟨b, 0, none⟩ = some (.int .i64 (t.n : Int)) := (cell_of_row _ _ _ _ _ _ h.blk).trans rfl
theorem TbAt.c1 (h : TbAt w lo b va vo t) : w.cell? ⟨b, 1, none⟩ = some (.int .u32 (t.last : Int)) := (cell_of_row _ _ _ _ _ _ h.blk).trans rfl
theorem TbAt.c2 (h : TbAt w lo b va vo t) : w.cell? ⟨b, 2, none⟩ = some va := (cell_of_row _ _ _ _ _ _ h.blk).trans rfl
theorem TbAt.c3 (h : TbAt w lo b va vo t) : w.cell? ⟨b, 3, none⟩ = some vo := (cell_of_row _ _ _ _ _ _ h.blk).trans rfl
theorem TbAt.fr (h : TbAt w lo b va vo t) (k : Nat) : w.frozen? ⟨b, k, none⟩ = false := frozen_of_row _ _ _ _ _ h.blk
theorem TbAt.cr (h : TbAt w lo b va vo t) {k c : Nat} {x : Note.R} {v : Value} (hx : t.rs[k]? = some x) (hv : (rcel x)[c]? = some v) : w.cell? ⟨b, 4 + k * 6 + c, none⟩ = some v := by
  refine (cell_of_row _ _ _ _ _ _ h.blk).trans ?_
  have e : 4 + k * 6 + c = (k * 6 + c) + 1 + 1 + 1 + 1 := by omega
  show (tcel t va vo).toArray[4 + k * 6 + c]? = _
  rw [List.getElem?_toArray, e]
  unfold tcel
  rw [List.getElem?_cons_succ, List.getElem?_cons_succ, List.getElem?_cons_succ, List.getElem?_cons_succ]
  exact rcels_at _ _ _ _ _ hx hv
theorem heap_setCell_arrJ (w : World) (g j : Nat) (cs : Array Value) (t : TypeId) (fr : Nat × Nat) (v : Value) (hg : w.heap[g]? = some (.cells cs t fr)) : (w.setCell ⟨g, j, none⟩ v).heap[g]? = some (.cells (cs.setIfInBounds j v) t fr) := by
  obtain ⟨hlt, hk⟩ := Array.getElem?_eq_some_iff.1 hg
  show (w.heap.modify g _)[g]? = _
  rw [Array.getElem?_eq_getElem (by rw [Array.size_modify]; exact hlt), Array.getElem_modify_self, hk]
  simp
theorem kset1 (w : World) (g j : Nat) (v : Value) : Keeps (fun k => k = g) w (w.setCell ⟨g, j, none⟩ v) := (Keeps.refl (fun k => k = g) w).setCell (fun _ => rfl) v
/-- The row of active jobs is another one. -/
theorem TbAt.putAct {w1 : World} {act' : List Jb} (hb : w1.heap[b]? = some (.cells (tcel t va vo).toArray 58 (0, 0))) (oa : OwnJ w1 lo va' act') (oo : OwnJ w1 lo vo t.over) (ap : ∀ k, va'.ownBlock = some k → vo.ownBlock ≠ some k) (lob : lo ≤ b) (la : act'.length ≤ 1000) (lv : t.over.length ≤ 1000) (r8 : t.rs.length = 8) :
    TbAt (w1.setCell ⟨b, 2, none⟩ va') lo b va' vo { t with act := act' } := by
  have na := owns_ne oa hb (by decide)
  have no := owns_ne oo hb (by decide)
  refine ⟨(heap_setCell_arrJ _ _ _ _ _ _ _ hb).trans (by simp [tcel]), owns_by oa fun k e => (kset1 w1 b 2 va').block k (World.ownsRow.lt oa k e).2 (na k e), owns_by oo fun k e => (kset1 w1 b 2 va').block k (World.ownsRow.lt oo k e).2 (no k e), ap, lob, la, lv, r8⟩
theorem TbAt.putOver {w1 : World} {over' : List Jb} (hb : w1.heap[b]? = some (.cells (tcel t va vo).toArray 58 (0, 0))) (oa : OwnJ w1 lo va t.act) (oo : OwnJ w1 lo vo' over') (ap : ∀ k, va.ownBlock = some k → vo'.ownBlock ≠ some k) (lob : lo ≤ b) (la : t.act.length ≤ 1000) (lv : over'.length ≤ 1000) (r8 : t.rs.length = 8) :
    TbAt (w1.setCell ⟨b, 3, none⟩ vo') lo b va vo' { t with over := over' } := by
  have na := owns_ne oa hb (by decide)
  have no := owns_ne oo hb (by decide)
  refine ⟨(heap_setCell_arrJ _ _ _ _ _ _ _ hb).trans (by simp [tcel]), owns_by oa fun k e => (kset1 w1 b 3 vo').block k (World.ownsRow.lt oa k e).2 (na k e), owns_by oo fun k e => (kset1 w1 b 3 vo').block k (World.ownsRow.lt oo k e).2 (no k e), ap, lob, la, lv, r8⟩
theorem TbAt.putLast (h : TbAt w lo b va vo t) (m : Nat) : TbAt (w.setCell ⟨b, 1, none⟩ (.int .u32 (m : Int))) lo b va vo { t with last := m } :=
  { h with blk := (heap_setCell_arrJ _ _ _ _ _ _ _ h.blk).trans (by simp [tcel]), oa := owns_by h.oa fun k e => (kset1 w b 1 _).block k (World.ownsRow.lt h.oa k e).2 (h.ne_a k e), oo := owns_by h.oo fun k e => (kset1 w b 1 _).block k (World.ownsRow.lt h.oo k e).2 (h.ne_o k e) }
/-- A field of an active job is another one. -/
theorem TbAt.putJob {g n cp i c : Nat} {x y : Jb} {v : Value} (h : TbAt w lo b (.slice (some ⟨g, 0, none⟩) n cp) vo t) (hx : t.act[i]? = some x) (hy : jcel y = (jcel x).set c v) (hc : c < 6) : TbAt (w.setCell ⟨g, i * 6 + c, none⟩ v) lo b (.slice (some ⟨g, 0, none⟩) n cp) vo { t with act := t.act.set i y } := by
  have hgb : g ≠ b := h.ne_a g rfl
  have oa := h.oa
  obtain ⟨a0, c0, e, -, -⟩ := owns_slice oa
  simp only [Value.slice.injEq] at e
  obtain ⟨-, rfl, -⟩ := e
  refine ⟨((kset1 w g _ v).block b h.lt (Ne.symm hgb)).trans h.blk, ?_, owns_by h.oo fun k e => (kset1 w g _ v).block k (World.ownsRow.lt h.oo k e).2 (fun e' => h.ap g rfl (e' ▸ e)), h.ap, h.lob, by rw [List.length_set]; exact h.la, h.lv, h.r8⟩
  show World.ownsRow _ _ _ _ _ (t.act.set i y).length _
  rw [List.length_set, ← jcels_set t.act i x c v y hx hy hc]
  exact (h.oa.stored (i * 6 + c) v).1
end

end Go.Proofs.Ytahiaifdfgkemaa
