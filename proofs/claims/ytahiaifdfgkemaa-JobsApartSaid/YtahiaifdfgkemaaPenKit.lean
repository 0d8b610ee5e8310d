/-
  An append that says where its answer lies; a pen's memory.
-/
import Derived.Test.YtahiaifdfgkemaaKit
namespace Go.Proofs.Ytahiaifdfgkemaa
open Go.RowKit

theorem cells_of {w : World} {x : Addr} {m : List UInt8} (h4 : ∀ j, j < m.length → w.cell? (x.add j) = some (bv (m.getD j 0))) :
    ∀ j y, (m.map bv)[j]? = some y → w.cell? (x.add j) = some y := by
  intro j y hj
  rw [List.getElem?_map] at hj
  have hlt : j < m.length := by
    rcases Nat.lt_or_ge j m.length with h' | h'
    · exact h'
    · rw [List.getElem?_eq_none h'] at hj; cases hj
  rw [h4 j hlt]
  rw [List.getElem?_eq_getElem hlt] at hj
  simp at hj
  rw [← hj]
  simp [List.getElem?_eq_getElem hlt]

theorem one_of (m : List UInt8) : ∀ y ∈ m.map bv, y.oneCell' = true := by
  intro y hy
  simp only [List.mem_map] at hy
  obtain ⟨b, _, rfl⟩ := hy
  rfl

/-- APPEND onto a slice of the call's own: the answer lies where the old one lay, or in new memory. -/
theorem run_app (w : World) (ty : TypeId) (base : Nat) (v u : Value) (l m : List UInt8) (hown : Own w base v l) (hrd : Rd w u m) (hbytes : l.length + m.length ≤ 140737488355328) (hbase : base ≤ w.heap.size) :
    ∃ ad cap w', (Builtin.append_ #[46, 46] ty #[v, u]).run Try.prog w = .ok (.slice ad (l.length + m.length) cap) w' ∧ Own w' base (.slice ad (l.length + m.length) cap) (l ++ m) ∧ w.grownBy w' v.ownBlock ∧
      (∀ k, (Value.slice ad (l.length + m.length) cap).ownBlock = some k → v.ownBlock = some k ∨ w.heap.size ≤ k) := by
  obtain ⟨i, hi, hz0, hz1, hz2⟩ := info_parts Try.infoU8
  have shapeOf : ∀ (w' : World) (b : Nat) (v' : Value), Own w' b v' (l ++ m) → ∃ ad cap, v' = .slice ad (l.length + m.length) cap := by
    intro w' b v' h
    obtain ⟨ad, cap, e, _⟩ := h.rd
    rw [List.length_append] at e
    exact ⟨ad, cap, e⟩
  rcases hrd.cases with ⟨rfl, rfl⟩ | ⟨xa, cap, rfl, h1, h2, h4⟩
  · have hr := run_append_owned_none (P := Try.prog) (w := w) base 46 ty 5 i 1 Try.underlying46 hi _ _ _ hown
    obtain ⟨ad, cap, e⟩ := shapeOf w base v (by rw [List.append_nil]; exact hown)
    subst e
    exact ⟨ad, cap, w, hr, by rw [List.append_nil]; exact hown, ⟨rfl, rfl, rfl, Nat.le_refl _, fun _ _ _ => rfl⟩, fun k hk => .inl hk⟩
  · by_cases hv : v = .slice none 0 0
    · subst hv
      have hl : l = [] := by
        rcases hown.shape with ⟨_, h⟩ | ⟨g, cp, e, _⟩
        · exact h
        · cases e
      subst hl
      obtain ⟨v', w', hr, r1, r2, _⟩ := run_append_own (P := Try.prog) w w.heap.size 46 ty 5 i (.int .u8 0) 1 1 Try.underlying46 hi hz0 hz1 hz2 rfl (by decide) (.slice none 0 0) 0 [] (World.ownsRow_nil w _ _ _) xa m.length cap (m.map bv) (by simp) (cells_of h4) (one_of m) (by unfold maxLen; omega) (by simp at hbytes; omega) (Nat.le_refl _)
      have ho : Own w' w.heap.size v' ([] ++ m) := by
        unfold Own
        simpa using r1
      obtain ⟨ad, cp, e⟩ := shapeOf w' _ v' ho
      subst e
      exact ⟨ad, cp, w', hr, ho.base (fun k hk => Nat.le_trans hbase (ho.lt k hk).1), r2, fun k hk => .inr (ho.lt k hk).1⟩
    · rcases hown.2 with ⟨e, _⟩ | ⟨g, cp, cur, rfl, hbg, hg, hnc, hcm, hcs, htake⟩
      · exact absurd e hv
      · by_cases hroom : l.length + m.length ≤ cp
        · have hr := run_append_room (P := Try.prog) w 46 ty 5 i Try.underlying46 hi g l.length cp cur hg xa m.length cap (m.map bv) (by rw [hz1]; simp) (cells_of h4) (one_of m) hroom (by rw [hz1, hcs]; simp; omega)
          refine ⟨some ⟨g, 0, none⟩, cp, _, hr, ⟨by simp, .inr ⟨g, cp, _, by simp, hbg, setRow_heap w g cur _ 5 _ hg, by simpa using hroom, hcm, ?_, ?_⟩⟩, ⟨rfl, rfl, rfl, by simp, fun k _ hk => setRow_other w g k _ (fun e => hk (by simp [Value.ownBlock, e]))⟩, fun k hk => .inl hk⟩
          · rw [hz1]
            have : cur.size = cp := by omega
            simp
            omega
          · rw [hz1, htake, List.map_append]
            exact List.take_left' (by simp)
        · obtain ⟨v', w', hr, r1, r2⟩ := run_append_arg_grows (P := Try.prog) w 46 ty 5 i (.int .u8 0) 1 1 Try.underlying46 hi hz0 hz1 hz2 rfl (by decide) ⟨g, 0, none⟩ l.length cp (l.map bv) (by simp) (hown.cells (g := g) rfl) xa m.length cap (m.map bv) (by simp) (cells_of h4) (by omega) (by unfold maxLen; omega) (by omega)
          have ho : Own w' w.heap.size v' (l ++ m) := by
            unfold Own
            rw [List.length_append, List.map_append]
            exact r1
          obtain ⟨ad, cp', e⟩ := shapeOf w' _ v' ho
          subst e
          exact ⟨ad, cp', w', hr, ho.base (fun k hk => Nat.le_trans hbase (ho.lt k hk).1), ⟨r2.os, r2.tape, r2.output, r2.size, fun k hk _ => r2.block k hk (by simp)⟩, fun k hk => .inr (ho.lt k hk).1⟩

/-- The same, as a step of the walk. -/
theorem appf {w : World} {ops : Array Oper} {rest : List Oper} {o : Oper} {a : Act} {Q : Exit → Act → World → Prop} (hgd : o.guard = none) (s x : Operand)
    (ho : o.op = .call { callee := .builtin .append, args := #[s, x], argTypes := #[46, 46] })
    (base : Nat) (v u : Value) (l m r : List UInt8) (k : Nat) (hs : a.eval s = v) (hx : a.eval x = u) (hown : Own w base v l) (hrd : Rd w u m)
    (hk : k = l.length + m.length) (hr : l ++ m = r) (hbytes : l.length + m.length ≤ 140737488355328) (hbase : base ≤ w.heap.size)
    (h : ∀ ad cap w', Own w' base (.slice ad k cap) r → w.grownBy w' v.ownBlock → (∀ q, (Value.slice ad k cap).ownBlock = some q → v.ownBlock = some q ∨ w.heap.size ≤ q) → wpList Try.prog ops Q rest (a.put o.dst (.slice ad k cap)) w') :
    wpList Try.prog ops Q (o :: rest) a w := by
  subst hk; subst hr
  refine wpList_plain hgd fun K hK => ?_
  obtain ⟨ad, cap, w', hrun, h1, h2, h3⟩ := run_app w o.type base v u l m hown hrd hbytes hbase
  unfold Oper.wp execOp
  simp only [ho, resolve, invoke, builtin, Sem.run_bind, Sem.run_pure, Result.andThen_ok, List.map_toArray, List.map_cons, List.map_nil, hs, hx, hrun]
  exact hK _ _ (h ad cap w' h1 h2 h3)

/-- A PEN at block b: what it has written, l, lies in v; has it been spoiled? -/
def PenAt (w : World) (base b : Nat) (v : Value) (l : List UInt8) (bad : Bool) : Prop :=
  w.heap[b]? = some (.cells #[v, .bool bad] 83 (0, 0)) ∧ Own w base v l ∧ v.ownBlock ≠ some b ∧ base ≤ b

/-- The blocks of a pen. -/
def penS (b : Nat) (v : Value) (k : Nat) : Prop := k = b ∨ v.ownBlock = some k

theorem PenAt.lt {w : World} {base b : Nat} {v : Value} {l : List UInt8} {bad : Bool} (h : PenAt w base b v l bad) : b < w.heap.size := (Array.getElem?_eq_some_iff.1 h.1).1

theorem PenAt.keeps {S : Nat → Prop} {w w' : World} {base b : Nat} {v : Value} {l : List UInt8} {bad : Bool} (h : PenAt w base b v l bad) (hk : Keeps S w w') (hn : ∀ k, penS b v k → ¬ S k) : PenAt w' base b v l bad :=
  ⟨by rw [hk.block b h.lt (hn b (.inl rfl))]; exact h.1, h.2.1.keeps hk (fun k hv => hn k (.inr hv)), h.2.2.1, h.2.2.2⟩

theorem PenAt.below {w w' : World} {base b : Nat} {v : Value} {l : List UInt8} {bad : Bool} (h : PenAt w base b v l bad) (hb : Below w.heap.size w w') : PenAt w' base b v l bad :=
  h.keeps (S := fun k => w.heap.size ≤ k) (Keeps.of_below hb (fun _ _ h => h)) (fun k hk hs => by
    rcases hk with rfl | hk
    · have := h.lt; omega
    · have := (h.2.1.lt k hk).2; omega)

theorem PenAt.cell0 {w : World} {base b : Nat} {v : Value} {l : List UInt8} {bad : Bool} (h : PenAt w base b v l bad) : w.cell? ⟨b, 0, none⟩ = some v := by
  rw [cell_of_row _ _ _ _ _ _ h.1]; rfl
theorem PenAt.cell1 {w : World} {base b : Nat} {v : Value} {l : List UInt8} {bad : Bool} (h : PenAt w base b v l bad) : w.cell? ⟨b, 1, none⟩ = some (.bool bad) := by
  rw [cell_of_row _ _ _ _ _ _ h.1]; rfl
theorem PenAt.frozen {w : World} {base b : Nat} {v : Value} {l : List UInt8} {bad : Bool} (h : PenAt w base b v l bad) (j : Nat) : w.frozen? ⟨b, j, none⟩ = false := by
  simp [World.frozen?, h.1]

theorem grown_same {w w' : World} {row : Option Nat} (h : w.grownBy w' row) {b : Nat} (hb : b < w.heap.size) (hr : row ≠ some b) : w'.heap[b]? = w.heap[b]? :=
  h.block b hb (fun e => hr e.symm)

/-- A pen behind an append to what it has written, and the store of the answer. -/
theorem PenAt.appended {wr W w4 : World} {base b : Nat} {v' v'' : Value} {L L'' : List UInt8} {bad : Bool} (h : PenAt wr base b v' L bad) (hW : Below wr.heap.size wr W) (hg : W.grownBy w4 v'.ownBlock) (ho : Own w4 base v'' L'')
    (hq : ∀ q, v''.ownBlock = some q → v'.ownBlock = some q ∨ W.heap.size ≤ q) :
    w4.cell? ⟨b, 0, none⟩ = some v' ∧ w4.frozen? ⟨b, 0, none⟩ = false ∧ PenAt (w4.setCell ⟨b, 0, none⟩ v'') base b v'' L'' bad ∧ Keeps (penS b v') wr (w4.setCell ⟨b, 0, none⟩ v'') ∧
      (∀ q, v''.ownBlock = some q → v'.ownBlock = some q ∨ wr.heap.size ≤ q) := by
  have hbl := h.lt
  have hbW : b < W.heap.size := Nat.lt_of_lt_of_le hbl hW.size
  have h4 : w4.heap[b]? = some (.cells #[v', .bool bad] 83 (0, 0)) := by
    rw [grown_same hg hbW h.2.2.1, hW.block b hbl]; exact h.1
  have hne : v''.ownBlock ≠ some b := by
    intro e
    rcases hq b e with h' | h'
    · exact h.2.2.1 h'
    · omega
  refine ⟨by rw [cell_of_row _ _ _ _ _ _ h4]; rfl, by simp [World.frozen?, h4], ⟨?_, ?_, hne, h.2.2.2⟩, ?_, fun q hq' => ?_⟩
  · simp only [World.setCell, Array.getElem?_modify, h4]
    simp
  · exact ho.to fun k hk => Below.heap_setCell _ _ _ _ (fun e => hne (by rw [hk, e]))
  · refine Keeps.setCell (p := ⟨b, 0, none⟩) ?_ (fun _ => .inl rfl) _
    refine Keeps.trans' (T := fun k => v'.ownBlock = some k) (Keeps.of_below hW (fun i hi hge => absurd hi (by omega))) (Keeps.of_grown hg) (fun i _ hi => .inr hi)
  · rcases hq q hq' with h' | h'
    · exact .inl h'
    · exact .inr (Nat.le_trans hW.size h')

end Go.Proofs.Ytahiaifdfgkemaa
