/-
  An append that says where its answer lies; a pen's memory.
-/
import Derived.Test.YtbagpckiegpalaaKit
namespace Go.Proofs.Ytbagpckiegpalaa
open Go.RowKit

theorem cells_of {w : World} {x : Addr} {m : List UInt8} (h4 : ∀ j, j < m.length → w.cell? (x.add j) = some (bv (m.getD j 0))) :
    ∀ j y, (m.map bv)[j]? = some y → w.cell? (x.add j) = some y := by
  intro j y hj
  rw [List.getElem?_map] at hj
  have hlt : j < m.length := by
    rcases Nat.lt_or_ge j m.length with h' | h'
    · exact h'
    · rw [List.getElem?_eq_none h'] at hj; cases hj
  rw [h4 j hlt]
  rw [List.getElem?_eq_getElem hlt] at hj
  simp at hj
  rw [← hj]
  simp [List.getElem?_eq_getElem hlt]

theorem one_of (m : List UInt8) : ∀ y ∈ m.map bv, y.oneCell' = true := by
  intro y hy
  simp only [List.mem_map] at hy
  obtain ⟨b, _, rfl⟩ := hy
  rfl

/-- APPEND onto a slice of the call's own: the answer lies where the old one lay, or in new memory. -/
theorem run_app (w : World) (ty : TypeId) (base : Nat) (v u : Value) (l m : List UInt8) (hown : Own w base v l) (hrd : Rd w u m) (hbytes : l.length + m.length ≤ 140737488355328) (hbase : base ≤ w.heap.size) :
    ∃ ad cap w', (Builtin.append_ #[32, 32] ty #[v, u]).run Try.prog w = .ok (.slice ad (l.length + m.length) cap) w' ∧ Own w' base (.slice ad (l.length + m.length) cap) (l ++ m) ∧ w.grownBy w' v.ownBlock ∧
      (∀ k, (Value.slice ad (l.length + m.length) cap).ownBlock = some k → v.ownBlock = some k ∨ w.heap.size ≤ k) := by
  obtain ⟨i, hi, hz0, hz1, hz2⟩ := info_parts Try.infoU8
  have shapeOf : ∀ (w' : World) (b : Nat) (v' : Value), Own w' b v' (l ++ m) → ∃ ad cap, v' = .slice ad (l.length + m.length) cap := by
    intro w' b v' h
    obtain ⟨ad, cap, e, _⟩ := h.rd
    rw [List.length_append] at e
    exact ⟨ad, cap, e⟩
  rcases hrd.cases with ⟨rfl, rfl⟩ | ⟨xa, cap, rfl, h1, h2, h4⟩
  · have hr := run_append_owned_none (P := Try.prog) (w := w) base 32 ty 5 i 1 Try.underlying32 hi _ _ _ hown
    obtain ⟨ad, cap, e⟩ := shapeOf w base v (by rw [List.append_nil]; exact hown)
    subst e
    exact ⟨ad, cap, w, hr, by rw [List.append_nil]; exact hown, ⟨rfl, rfl, rfl, Nat.le_refl _, fun _ _ _ => rfl⟩, fun k hk => .inl hk⟩
  · by_cases hv : v = .slice none 0 0
    · subst hv
      have hl : l = [] := by
        rcases hown.shape with ⟨_, h⟩ | ⟨g, cp, e, _⟩
        · exact h
        · cases e
      subst hl
      obtain ⟨v', w', hr, r1, r2, _⟩ := run_append_own (P := Try.prog) w w.heap.size 32 ty 5 i (.int .u8 0) 1 1 Try.underlying32 hi hz0 hz1 hz2 rfl (by decide) (.slice none 0 0) 0 [] (World.ownsRow_nil w _ _ _) xa m.length cap (m.map bv) (by simp) (cells_of h4) (one_of m) (by unfold maxLen; omega) (by simp at hbytes; omega) (Nat.le_refl _)
      have ho : Own w' w.heap.size v' ([] ++ m) := by
        unfold Own
        simpa using r1
      obtain ⟨ad, cp, e⟩ := shapeOf w' _ v' ho
      subst e
      exact ⟨ad, cp, w', hr, ho.base (fun k hk => Nat.le_trans hbase (ho.lt k hk).1), r2, fun k hk => .inr (ho.lt k hk).1⟩
    · rcases hown.2 with ⟨e, _⟩ | ⟨g, cp, cur, rfl, hbg, hg, hnc, hcm, hcs, htake⟩
      · exact absurd e hv
      · by_cases hroom : l.length + m.length ≤ cp
        · have hr := run_append_room (P := Try.prog) w 32 ty 5 i Try.underlying32 hi g l.length cp cur hg xa m.length cap (m.map bv) (by rw [hz1]; simp) (cells_of h4) (one_of m) hroom (by rw [hz1, hcs]; simp; omega)
          refine ⟨some ⟨g, 0, none⟩, cp, _, hr, ⟨by simp, .inr ⟨g, cp, _, by simp, hbg, setRow_heap w g cur _ 5 _ hg, by simpa using hroom, hcm, ?_, ?_⟩⟩, ⟨rfl, rfl, rfl, by simp, fun k _ hk => setRow_other w g k _ (fun e => hk (by simp [Value.ownBlock, e]))⟩, fun k hk => .inl hk⟩
          · rw [hz1]
            have : cur.size = cp := by omega
            simp
            omega
          · rw [hz1, htake, List.map_append]
            exact List.take_left' (by simp)
        · obtain ⟨v', w', hr, r1, r2⟩ := run_append_arg_grows (P := Try.prog) w 32 ty 5 i (.int .u8 0) 1 1 Try.underlying32 hi hz0 hz1 hz2 rfl (by decide) ⟨g, 0, none⟩ l.length cp (l.map bv) (by simp) (hown.cells (g := g) rfl) xa m.length cap (m.map bv) (by simp) (cells_of h4) (by omega) (by unfold maxLen; omega) (by omega)
          have ho : Own w' w.heap.size v' (l ++ m) := by
            unfold Own
            rw [List.length_append, List.map_append]
            exact r1
          obtain ⟨ad, cp', e⟩ := shapeOf w' _ v' ho
          subst e
          exact ⟨ad, cp', w', hr, ho.base (fun k hk => Nat.le_trans hbase (ho.lt k hk).1), ⟨r2.os, r2.tape, r2.output, r2.size, fun k hk _ => r2.block k hk (by simp)⟩, fun k hk => .inr (ho.lt k hk).1⟩

/-- The same, as a step of the walk. -/
theorem appf {w : World} {ops : Array Oper} {rest : List Oper} {o : Oper} {a : Act} {Q : Exit → Act → World → Prop} (hgd : o.guard = none) (s x : Operand)
    (ho : o.op = .call { callee := .builtin .append, args := #[s, x], argTypes := #[32, 32] })
    (base : Nat) (v u : Value) (l m r : List UInt8) (k : Nat) (hs : a.eval s = v) (hx : a.eval x = u) (hown : Own w base v l) (hrd : Rd w u m)
    (hk : k = l.length + m.length) (hr : l ++ m = r) (hbytes : l.length + m.length ≤ 140737488355328) (hbase : base ≤ w.heap.size)
    (h : ∀ ad cap w', Own w' base (.slice ad k cap) r → w.grownBy w' v.ownBlock → (∀ q, (Value.slice ad k cap).ownBlock = some q → v.ownBlock = some q ∨ w.heap.size ≤ q) → wpList Try.prog ops Q rest (a.put o.dst (.slice ad k cap)) w') :
    wpList Try.prog ops Q (o :: rest) a w := by
  subst hk; subst hr
  refine wpList_plain hgd fun K hK => ?_
  obtain ⟨ad, cap, w', hrun, h1, h2, h3⟩ := run_app w o.type base v u l m hown hrd hbytes hbase
  unfold Oper.wp execOp
  simp only [ho, resolve, invoke, builtin, Sem.run_bind, Sem.run_pure, Result.andThen_ok, List.map_toArray, List.map_cons, List.map_nil, hs, hx, hrun]
  exact hK _ _ (h ad cap w' h1 h2 h3)

/-- The blocks of a pen. -/
def penS (b : Nat) (v : Value) (k : Nat) : Prop := k = b ∨ v.ownBlock = some k

theorem grown_same {w w' : World} {row : Option Nat} (h : w.grownBy w' row) {b : Nat} (hb : b < w.heap.size) (hr : row ≠ some b) : w'.heap[b]? = w.heap[b]? :=
  h.block b hb (fun e => hr e.symm)

end Go.Proofs.Ytbagpckiegpalaa
