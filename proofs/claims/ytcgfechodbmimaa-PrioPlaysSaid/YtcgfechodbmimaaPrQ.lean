/-
  Where a heap lies: its items, its places; Len, Less.
-/
import Derived.Test.YtcgfechodbmimaaPrK
import Derived.Laws.OwnMore
namespace Go.Proofs.Ytcgfechodbmimaa
open Go.RowKit Go.ChangeMaps
set_option linter.unusedVariables false

def cels (q : List It) : List Value := q.flatMap cel
theorem cels_len (q : List It) : (cels q).length = q.length * 3 := by
  unfold cels
  induction q with
  | nil => rfl
  | cons x l ih => rw [List.flatMap_cons, List.length_append, ih, List.length_cons]; show 3 + _ = _; omega
theorem cels_cons (x : It) (l : List It) : cels (x :: l) = .int .u32 x.1 :: .int .u8 x.2.1 :: .int .u32 x.2.2 :: cels l := rfl
theorem cels_snoc (l : List It) (x : It) : cels (l ++ [x]) = cels l ++ cel x := by unfold cels; rw [List.flatMap_append]; simp
theorem cels_at : ∀ (q : List It) (k c : Nat) (v : Value), k < q.length → (cel (it q k))[c]? = some v → (cels q)[k * 3 + c]? = some v
  | x :: l, 0, c, v, _, h => by
    have hc : c < 3 := (List.getElem?_eq_some_iff.1 h).1
    rw [cels_cons]
    match c, hc, h with
    | 0, _, h => exact h
    | 1, _, h => exact h
    | 2, _, h => exact h
  | x :: l, k + 1, c, v, hk, h => by
    have e : (k + 1) * 3 + c = (k * 3 + c) + 1 + 1 + 1 := by omega
    rw [cels_cons, e, List.getElem?_cons_succ, List.getElem?_cons_succ, List.getElem?_cons_succ]
    exact cels_at l k c v (by simpa using hk) h
theorem cels_set : ∀ (q : List It) (k : Nat) (y : It), k < q.length → ((((cels q).set (k * 3) (.int .u32 y.1)).set (k * 3 + 1) (.int .u8 y.2.1)).set (k * 3 + 2) (.int .u32 y.2.2)) = cels (q.set k y)
  | x :: l, 0, y, _ => by show _ = cels (y :: l); rw [cels_cons, cels_cons]; rfl
  | x :: l, k + 1, y, hk => by
    rw [List.set_cons_succ, cels_cons, cels_cons, ← cels_set l k y (by simpa using hk)]
    have e0 : (k + 1) * 3 = k * 3 + 1 + 1 + 1 := by omega
    have e1 : (k + 1) * 3 + 1 = (k * 3 + 1) + 1 + 1 + 1 := by omega
    have e2 : (k + 1) * 3 + 2 = (k * 3 + 2) + 1 + 1 + 1 := by omega
    rw [e1, e2, e0]
    simp only [List.set_cons_succ]
abbrev set3 (w : World) (g o : Nat) (A B C : Value) : World := ((w.setCell ⟨g, o, none⟩ A).setCell ⟨g, o + 1, none⟩ B).setCell ⟨g, o + 2, none⟩ C
theorem set3_other (w : World) (g o p : Nat) (A B C : Value) (h : p ≠ g) : (set3 w g o A B C).heap[p]? = w.heap[p]? :=
  (Below.heap_setCell _ _ _ _ h).trans ((Below.heap_setCell _ _ _ _ h).trans (Below.heap_setCell _ _ _ _ h))
theorem set3_below {n : Nat} {a w : World} (h : Below n a w) (g o : Nat) (A B C : Value) (hg : n ≤ g) : Below n a (set3 w g o A B C) :=
  ((h.setCell (p := ⟨g, o, none⟩) hg A).setCell (p := ⟨g, o + 1, none⟩) hg B).setCell (p := ⟨g, o + 2, none⟩) hg C
theorem stored3 {w : World} {lo g n cap : Nat} {e : TypeId} {q : List It} (h : w.ownsRow lo e 3 (.slice (some ⟨g, 0, none⟩) n cap) n (cels q)) {k : Nat} (hk : k < q.length) (y : It) :
    (set3 w g (k * 3) (.int .u32 y.1) (.int .u8 y.2.1) (.int .u32 y.2.2)).ownsRow lo e 3 (.slice (some ⟨g, 0, none⟩) n cap) n (cels (q.set k y)) := by
  rw [← cels_set q k y hk]
  exact ((((h.stored (k * 3) _).1).stored (k * 3 + 1) _).1.stored (k * 3 + 2) _).1

/-- What fits an item's cells. -/
def ItOk (x : It) : Prop := kw x.1
structure RwAt (w : World) (lo b : Nat) (v : Value) (m : Nat) (q : List It) : Prop where
  blk : w.heap[b]? = some (.cells #[v, .map (some m)] 53 (0, 0))
  own : w.ownsRow lo 32 3 v q.length (cels q)
  mp : MpF w m q.length (plc q)
  lob : lo ≤ b
  lom : lo ≤ m
  ok : ∀ x ∈ q, ItOk x
  ids : IdsApart q
  len : q.length ≤ 10000

theorem RwAt.lt {w : World} {lo b : Nat} {v : Value} {m : Nat} {q : List It} (h : RwAt w lo b v m q) : b < w.heap.size := (Array.getElem?_eq_some_iff.1 h.blk).1
theorem RwAt.below {w w' : World} {lo b : Nat} {v : Value} {m : Nat} {q : List It} (h : RwAt w lo b v m q) (hb : Below w.heap.size w w') : RwAt w' lo b v m q :=
  { h with blk := (hb.block _ h.lt).trans h.blk, own := owns_below h.own hb, mp := h.mp.block (hb.block _ h.mp.lt) }
theorem RwAt.sl {w : World} {lo b : Nat} {v : Value} {m : Nat} {q : List It} (h : RwAt w lo b v m q) : ∃ a c, v = .slice a q.length c ∧ q.length ≤ c ∧ c ≤ 9223372036854775807 := owns_slice h.own
theorem RwAt.own' {w : World} {lo b : Nat} {v : Value} {m : Nat} {q : List It} (h : RwAt w lo b v m q) {k : Nat} (hk : k < q.length) : ∃ g c, v = .slice (some ⟨g, 0, none⟩) q.length c ∧ lo ≤ g ∧ g < w.heap.size ∧ g ≠ b ∧ g ≠ m ∧ q.length ≤ c ∧ c ≤ 9223372036854775807 := by
  rcases owns_shape h.own with ⟨_, h0⟩ | ⟨g, c, e, h1, h2, h3, h4⟩
  · omega
  · refine ⟨g, c, e, h1, h2, ?_, ?_, h3, h4⟩
    · exact owns_ne h.own h.blk (by decide) g (by rw [e]; rfl)
    · rintro rfl
      obtain ⟨es, clock, hm⟩ := h.mp.map
      rcases h.own.2 with ⟨e2, _⟩ | ⟨g', cap, cur, e2, _, hg, _⟩
      · rw [e] at e2; cases e2
      · rw [e] at e2
        simp only [Value.slice.injEq, Option.some.injEq, Addr.mk.injEq, and_true, true_and] at e2
        obtain ⟨rfl, -⟩ := e2
        rw [hm] at hg; simp at hg
theorem RwAt.item {w : World} {lo b : Nat} {m g n c : Nat} {q : List It} (h : RwAt w lo b (.slice (some ⟨g, 0, none⟩) n c) m q) {k : Nat} (hk : k < q.length) :
    w.cell? ⟨g, k * 3, none⟩ = some (.int .u32 (it q k).1) ∧ w.cell? ⟨g, k * 3 + 1, none⟩ = some (.int .u8 (it q k).2.1) ∧ w.cell? ⟨g, k * 3 + 2, none⟩ = some (.int .u32 (it q k).2.2) ∧
    w.frozen? ⟨g, k * 3, none⟩ = false ∧ w.frozen? ⟨g, k * 3 + 1, none⟩ = false ∧ w.frozen? ⟨g, k * 3 + 2, none⟩ = false := by
  obtain ⟨a, c', e, -, -⟩ := owns_slice h.own
  simp only [Value.slice.injEq] at e
  obtain ⟨-, rfl, -⟩ := e
  have hl := cels_len q
  have f : ∀ j, j < 3 → w.cell? ⟨g, k * 3 + j, none⟩ = (cels q)[k * 3 + j]? := fun j hj => h.own.cellAt (k * 3 + j) (by omega)
  refine ⟨(f 0 (by omega)).trans (cels_at q k 0 _ hk rfl), (f 1 (by omega)).trans (cels_at q k 1 _ hk rfl), (f 2 (by omega)).trans (cels_at q k 2 _ hk rfl), ?_, ?_, ?_⟩ <;> exact owns_frozen h.own _

set_option maxRecDepth 100000 in
set_option maxHeartbeats 1000000 in
theorem qlen_any (w : World) (lo b m : Nat) (v : Value) (q : List It) (h : RwAt w lo b v m q) :
    Calls Try.prog 27 #[.pointer (some ⟨b, 0, none⟩)] w fun e w' => e = .returned (.int .i64 (q.length : Nat)) ∧ w = w' := by
  obtain ⟨a, c, rfl, hc1, hc2⟩ := h.sl
  have c0 : w.cell? ⟨b, 0, none⟩ = some (.slice a q.length c) := (cell_of_row w _ _ _ _ _ h.blk).trans rfl
  clear h
  generalize q.length = n at *
  go_enter Try.func27, Try.ntmps27
  go_wp2
  go_ret
  exact ⟨rfl, rfl⟩

set_option maxRecDepth 100000 in
set_option maxHeartbeats 4000000 in
theorem qless_any (w : World) (lo b m : Nat) (v : Value) (q : List It) (i j : Nat) (h : RwAt w lo b v m q) (hi : i < q.length) (hj : j < q.length) :
    Calls Try.prog 73 #[.pointer (some ⟨b, 0, none⟩), .int .i64 i, .int .i64 j] w fun e w' => e = .returned (.bool (decide (Bef (it q i) (it q j)))) ∧ Below w.heap.size w w' := by
  obtain ⟨g, c, rfl, hg1, hg2, hgb, hgm, hc1, hc2⟩ := h.own' hi
  obtain ⟨a0, a1, a2, -, -, -⟩ := h.item hi
  obtain ⟨b0, b1, b2, -, -, -⟩ := h.item hj
  have c0 : w.drew.cell? ⟨b, 0, none⟩ = some (.slice (some ⟨g, 0, none⟩) q.length c) := (cell_of_row w _ _ _ _ _ h.blk).trans rfl
  have A0 : w.drew.cell? ⟨g, i * 3, none⟩ = _ := a0
  have A1 : w.drew.cell? ⟨g, i * 3 + 1, none⟩ = _ := a1
  have A2 : w.drew.cell? ⟨g, i * 3 + 2, none⟩ = _ := a2
  have B0 : w.drew.cell? ⟨g, j * 3, none⟩ = _ := b0
  have B1 : w.drew.cell? ⟨g, j * 3 + 1, none⟩ = _ := b1
  have B2 : w.drew.cell? ⟨g, j * 3 + 2, none⟩ = _ := b2
  have HF := hid (fun W => first11_any W (it q i) (it q j))
  have hlb := h.lt
  have hii : (i : Int) < (q.length : Int) := by omega
  have hjj : (j : Int) < (q.length : Int) := by omega
  unfold itv at HF
  generalize decide (Bef (it q i) (it q j)) = R at *
  generalize it q i = x at *
  generalize it q j = y at *
  generalize q.length = n at *
  obtain ⟨x0, x1, x2⟩ := x
  obtain ⟨y0, y1, y2⟩ := y
  dsimp only at *
  clear h a0 a1 a2 b0 b1 b2
  go_enter Try.func73, Try.ntmps73
  go_wp2_with fail
  go_region_held3 (fun w' => w'.cell? ⟨b, 0, none⟩ = some (.slice (some ⟨g, 0, none⟩) n c) ∧ w'.cell? ⟨g, i * 3, none⟩ = some (.int .u32 x0) ∧ w'.cell? ⟨g, i * 3 + 1, none⟩ = some (.int .u8 x1) ∧ w'.cell? ⟨g, i * 3 + 2, none⟩ = some (.int .u32 x2) ∧ w'.cell? ⟨g, j * 3, none⟩ = some (.int .u32 y0) ∧ w'.cell? ⟨g, j * 3 + 1, none⟩ = some (.int .u8 y1) ∧ w'.cell? ⟨g, j * 3 + 2, none⟩ = some (.int .u32 y2))
    (first | (with_reducible refine ⟨?_, ?_, ?_, ?_, ?_, ?_, ?_⟩ <;> assumption) | fail)
    (first
      | (go_at_call 77; refine (HF.out _).mono ?_; rintro e w' ⟨rfl, hb⟩; have HB := hid hb; have r0 := (hb.cell (p := ⟨b, 0, none⟩) (by show b < w.heap.size; omega)).trans c0; have r1 := (hb.cell (p := ⟨g, i * 3, none⟩) (by show g < w.heap.size; omega)).trans A0; have r2 := (hb.cell (p := ⟨g, i * 3 + 1, none⟩) (by show g < w.heap.size; omega)).trans A1; have r3 := (hb.cell (p := ⟨g, i * 3 + 2, none⟩) (by show g < w.heap.size; omega)).trans A2; have r4 := (hb.cell (p := ⟨g, j * 3, none⟩) (by show g < w.heap.size; omega)).trans B0; have r5 := (hb.cell (p := ⟨g, j * 3 + 1, none⟩) (by show g < w.heap.size; omega)).trans B1; have r6 := (hb.cell (p := ⟨g, j * 3 + 2, none⟩) (by show g < w.heap.size; omega)).trans B2; clear hb)
      | fail)
  go_wp2
  go_ret
  exact ⟨rfl, (Below.refl _ w).drew.trans HB.out⟩

end Go.Proofs.Ytcgfechodbmimaa
