/-
  append of rows of structs onto a row of the call's own: run, and as a step of a region that draws.
-/
import Derived.Test.YtdongghjchnpbaaKeepT
import Derived.BigFrame
import Derived.Laws.AppendOwn
import Derived.ArgAppend
namespace Go.Proofs.Ytdongghjchnpbaa
open Go.RowKit
set_option linter.unusedVariables false

/-- What is appended, read cell by cell: m elements, the cells ys. -/
def SrcC (w : World) (u : Value) (m : Nat) (ys : List Value) : Prop :=
  (u = .slice none 0 0 ∧ m = 0 ∧ ys = []) ∨ ∃ a c, u = .slice (some a) m c ∧ ∀ j y, ys[j]? = some y → w.cell? (a.add j) = some y

theorem SrcC.of_own {w : World} {base k : Nat} {e : TypeId} {v : Value} {n : Nat} {xs : List Value} (h : w.ownsRow base e k v n xs) : SrcC w v n xs := by
  rcases h.2 with ⟨rfl, hn⟩ | ⟨g, cap, cur, rfl, hb, hg, _⟩
  · exact .inl ⟨rfl, hn, List.eq_nil_of_length_eq_zero (by rw [h.1, hn, Nat.zero_mul])⟩
  · exact .inr ⟨⟨g, 0, none⟩, cap, rfl, World.ownsRow.cells h (g := g) rfl⟩

/-- A part of it, from element i on. -/
theorem SrcC.part {w : World} {base k : Nat} {e : TypeId} {g n cap : Nat} {xs : List Value} (h : w.ownsRow base e k (.slice (some ⟨g, 0, none⟩) n cap) n xs) (i m c : Nat) (ys : List Value) (a : Addr) (ha : a = ⟨g, i * k, none⟩ ∨ ys = []) (hy : ys = (xs.drop (i * k)).take (m * k)) : SrcC w (.slice (some a) m c) m ys := by
  refine .inr ⟨a, c, rfl, fun j y hj => ?_⟩
  rcases ha with rfl | rfl
  · rw [hy, List.getElem?_take] at hj
    split at hj
    · rw [List.getElem?_drop] at hj
      have := World.ownsRow.cells h (g := g) rfl _ y hj
      rw [Addr.add_lit, Nat.zero_add] at this
      rw [Addr.add_lit]
      exact this
    · cases hj
  · simp at hj

theorem SrcC.to {w w' : World} {u : Value} {m : Nat} {ys : List Value} (h : SrcC w u m ys) (hc : ∀ a : Addr, a.block < w.heap.size → w'.cell? a = w.cell? a) : SrcC w' u m ys := by
  rcases h with h | ⟨a, c, rfl, h⟩
  · exact .inl h
  · refine .inr ⟨a, c, rfl, fun j y hj => ?_⟩
    have := h j y hj
    rw [hc _ (World.block_lt_of_cell? _ _ this)]
    exact this

/-- A block that was laid with just these cells. -/
theorem SrcC.lit (w : World) (cs : Array Value) (e : TypeId) (m : Nat) (ys : List Value) (hy : cs.toList = ys) : SrcC (w.alloc (.cells cs e)) (.slice (some ⟨w.heap.size, 0, none⟩) m m) m ys := by
  refine .inr ⟨_, m, rfl, fun j y hj => ?_⟩
  rw [Addr.add_lit, Nat.zero_add, cell_of_row _ _ _ _ _ _ (heap_alloc_new w _)]
  subst hy
  simpa using hj

theorem run_apps (w : World) (ty : TypeId) (base : Nat) (TS TE : TypeId) (k bytes : Nat) (z : Value) (ht : Try.prog.underlying TS = some (.slice TE)) (hinfo : (Try.prog.info? TE).map (fun i => (i.zero, i.size, i.bytes)) = some (some z, k, bytes)) (hzs : z.cells.size = k) (hk : 0 < k)
    (v u : Value) (n m : Nat) (xs ys : List Value) (hown : w.ownsRow base TE k v n xs) (hsrc : SrcC w u m ys) (hyl : ys.length = m * k) (hone : ∀ y ∈ ys, y.oneCell' = true) (hlen : (n + m) * bytes ≤ 140737488355328) (hnm : n + m ≤ 140737488355328) (hbase : base ≤ w.heap.size) :
    ∃ ad cap w', (Builtin.append_ #[TS, TS] ty #[v, u]).run Try.prog w = .ok (.slice ad (n + m) cap) w' ∧ w'.ownsRow base TE k (.slice ad (n + m) cap) (n + m) (xs ++ ys) ∧ w.grownBy w' v.ownBlock := by
  obtain ⟨i, hi, hz0, hz1, hz2⟩ := info_parts hinfo
  have main : ∃ v' w', (Builtin.append_ #[TS, TS] ty #[v, u]).run Try.prog w = .ok v' w' ∧ w'.ownsRow base TE k v' (n + m) (xs ++ ys) ∧ w.grownBy w' v.ownBlock := by
    rcases hsrc with ⟨rfl, rfl, rfl⟩ | ⟨a, c, rfl, hc⟩
    · have hr := run_append_owned_none (P := Try.prog) (w := w) base TS ty TE i k ht hi _ _ _ hown
      exact ⟨v, w, hr, by rw [List.append_nil]; exact hown, ⟨rfl, rfl, rfl, Nat.le_refl _, fun _ _ _ => rfl⟩⟩
    · obtain ⟨v', w', hr, r1, r2, _⟩ := run_append_own (P := Try.prog) w base TS ty TE i z k bytes ht hi hz0 hz1 hz2 hzs hk v n _ hown a m c ys hyl hc hone (by unfold maxLen; omega) (by omega) hbase
      exact ⟨v', w', hr, r1, r2⟩
  obtain ⟨v', w', hr, r1, r2⟩ := main
  obtain ⟨ad, cap, e, _⟩ := owns_slice r1
  subst e
  exact ⟨ad, cap, w', hr, r1, r2⟩

/-- And it says where the answer lies: where the old one lay, or in new memory. -/
theorem run_apps2 (w : World) (ty : TypeId) (base : Nat) (TS TE : TypeId) (k bytes : Nat) (z : Value) (ht : Try.prog.underlying TS = some (.slice TE)) (hinfo : (Try.prog.info? TE).map (fun i => (i.zero, i.size, i.bytes)) = some (some z, k, bytes)) (hzs : z.cells.size = k) (hk : 0 < k)
    (v u : Value) (n m : Nat) (xs ys : List Value) (hown : w.ownsRow base TE k v n xs) (hsrc : SrcC w u m ys) (hyl : ys.length = m * k) (hone : ∀ y ∈ ys, y.oneCell' = true) (hlen : (n + m) * bytes ≤ 140737488355328) (hnm : n + m ≤ 140737488355328) (hbase : base ≤ w.heap.size) :
    ∃ ad cap w', (Builtin.append_ #[TS, TS] ty #[v, u]).run Try.prog w = .ok (.slice ad (n + m) cap) w' ∧ w'.ownsRow base TE k (.slice ad (n + m) cap) (n + m) (xs ++ ys) ∧ w.grownBy w' v.ownBlock ∧ (∀ q, (Value.slice ad (n + m) cap).ownBlock = some q → v.ownBlock = some q ∨ w.heap.size ≤ q) := by
  obtain ⟨i, hi, hz0, hz1, hz2⟩ := info_parts hinfo
  rcases hsrc with ⟨rfl, rfl, rfl⟩ | ⟨a, c, rfl, hc⟩
  · have hr := run_append_owned_none (P := Try.prog) (w := w) base TS ty TE i k ht hi _ _ _ hown
    obtain ⟨ad, cap, e, _⟩ := owns_slice hown
    subst e
    exact ⟨ad, cap, w, hr, by rw [List.append_nil]; exact hown, ⟨rfl, rfl, rfl, Nat.le_refl _, fun _ _ _ => rfl⟩, fun q hq => .inl hq⟩
  · rcases hown.2 with ⟨rfl, rfl⟩ | ⟨g, cp, cur, rfl, hbg, hg, hnc, hcm, hcs, htake⟩
    · have hx0 : xs = [] := List.eq_nil_of_length_eq_zero (by rw [hown.1, Nat.zero_mul])
      subst hx0
      obtain ⟨v', w', hr, r1, r2, _⟩ := run_append_own (P := Try.prog) w w.heap.size TS ty TE i z k bytes ht hi hz0 hz1 hz2 hzs hk (.slice none 0 0) 0 [] (World.ownsRow_nil w _ _ _) a m c ys hyl hc hone (by unfold maxLen; omega) (by omega) (Nat.le_refl _)
      obtain ⟨ad, cap, e, _⟩ := owns_slice r1
      subst e
      exact ⟨ad, cap, w', hr, owns_base r1 hbase, r2, fun q hq => .inr (World.ownsRow.lt r1 q hq).1⟩
    · by_cases hroom : n + m ≤ cp
      · have hsz : (n + m) * k ≤ cp * k := Nat.mul_le_mul_right _ hroom
        rw [Nat.add_mul] at hsz
        have hr := run_append_room (P := Try.prog) w TS ty TE i ht hi g n cp cur hg a m c ys (by rw [hz1]; exact hyl) hc hone hroom (by rw [hz1, hcs, hyl]; omega)
        refine ⟨some ⟨g, 0, none⟩, cp, _, hr, ⟨by rw [List.length_append, hown.1, hyl, Nat.add_mul], .inr ⟨g, cp, _, rfl, hbg, setRow_heap w g cur _ TE _ hg, hroom, hcm, ?_, ?_⟩⟩, ⟨rfl, rfl, rfl, by simp, fun q _ hq => setRow_other w g q _ (fun e => hq (by simp [Value.ownBlock, e]))⟩, fun q hq => .inl hq⟩
        · rw [hz1]
          simp only [List.size_toArray, List.length_append, List.length_take, List.length_drop, Array.length_toList, hyl, hcs]
          generalize n * k = nk at *
          generalize m * k = mk1 at *
          generalize cp * k = ck at *
          omega
        · rw [hz1, htake]
          exact List.take_left' (by rw [List.length_append, hown.1, hyl, Nat.add_mul])
      · obtain ⟨v', w', hr, r1, r2⟩ := run_append_arg_grows (P := Try.prog) w TS ty TE i z k bytes ht hi hz0 hz1 hz2 hzs hk ⟨g, 0, none⟩ n cp xs hown.1 (hown.cells (g := g) rfl) a m c ys hyl hc (by omega) (by unfold maxLen; omega) hlen
        obtain ⟨ad, cap, e, _⟩ := owns_slice r1
        subst e
        exact ⟨ad, cap, w', hr, owns_base r1 hbase, ⟨r2.os, r2.tape, r2.output, r2.size, fun q hq _ => r2.block q hq (by simp)⟩, fun q hq => .inr (World.ownsRow.lt r1 q hq).1⟩

section
variable {w : World} {ops : Array Oper} {rest : List Oper} {o : Oper} {a : Act} {Q : Exit → Act → World → Prop}

theorem op_apps {K : Act → World → Prop} (TS TE : TypeId) (s x : Operand) (ho : o.op = .call { callee := .builtin .append, args := #[s, x], argTypes := #[TS, TS] }) (base k bytes : Nat) (z : Value) (ht : Try.prog.underlying TS = some (.slice TE)) (hinfo : (Try.prog.info? TE).map (fun i => (i.zero, i.size, i.bytes)) = some (some z, k, bytes)) (hzs : z.cells.size = k) (hk : 0 < k)
    (v u : Value) (n m N : Nat) (xs ys : List Value) (hs : a.eval s = v) (hx : a.eval x = u) (hown : w.ownsRow base TE k v n xs) (hsrc : SrcC w u m ys) (hyl : ys.length = m * k) (hone : ∀ y ∈ ys, y.oneCell' = true) (hN : N = n + m) (hlen : (n + m) * bytes ≤ 140737488355328) (hnm : n + m ≤ 140737488355328) (hbase : base ≤ w.heap.size)
    (h : ∀ ad cap w', w'.ownsRow base TE k (.slice ad N cap) N (xs ++ ys) → w.grownBy w' v.ownBlock → K (a.put o.dst (.slice ad N cap)) w') : o.wp Try.prog a w K Q := by
  subst hN
  obtain ⟨ad, cap, w', hrun, h1, h2⟩ := run_apps w o.type base TS TE k bytes z ht hinfo hzs hk v u n m xs ys hown hsrc hyl hone hlen hnm hbase
  unfold Oper.wp
  simp [execOp, ho, resolve, invoke, builtin, hs, hx, hrun, Result.andThen]
  exact h ad cap w' h1 h2

/-- As a step of a region that draws. -/
theorem appsst {K : Act → World → Prop} {E : Prop} (hw : Region.wanted o (yielded ops a.tmps) = true) (TS TE : TypeId) (s x : Operand) (ho : o.op = .call { callee := .builtin .append, args := #[s, x], argTypes := #[TS, TS] }) (base k bytes : Nat) (z : Value) (ht : Try.prog.underlying TS = some (.slice TE)) (hinfo : (Try.prog.info? TE).map (fun i => (i.zero, i.size, i.bytes)) = some (some z, k, bytes)) (hzs : z.cells.size = k) (hk : 0 < k)
    (v u : Value) (n m N : Nat) (xs ys : List Value) (hs : a.eval s = v) (hx : a.eval x = u) (hown : w.ownsRow base TE k v n xs) (hsrc : SrcC w u m ys) (hyl : ys.length = m * k) (hone : ∀ y ∈ ys, y.oneCell' = true) (hN : N = n + m) (hlen : (n + m) * bytes ≤ 140737488355328) (hnm : n + m ≤ 140737488355328) (hbase : base ≤ w.heap.size)
    (h : ∀ ad cap w', w'.ownsRow base TE k (.slice ad N cap) N (xs ++ ys) → w.grownBy w' v.ownBlock → K (a.put o.dst (.slice ad N cap)) w') : if Region.wanted o (yielded ops a.tmps) = true then Oper.wp Try.prog o a w K Q else E := by
  rw [if_pos hw]
  exact op_apps TS TE s x ho base k bytes z ht hinfo hzs hk v u n m N xs ys hs hx hown hsrc hyl hone hN hlen hnm hbase h

/-- As one of a row of operations. -/
theorem appsw (hw : Region.wanted o (yielded ops a.tmps) = true) (TS TE : TypeId) (s x : Operand) (ho : o.op = .call { callee := .builtin .append, args := #[s, x], argTypes := #[TS, TS] }) (base k bytes : Nat) (z : Value) (ht : Try.prog.underlying TS = some (.slice TE)) (hinfo : (Try.prog.info? TE).map (fun i => (i.zero, i.size, i.bytes)) = some (some z, k, bytes)) (hzs : z.cells.size = k) (hk : 0 < k)
    (v u : Value) (n m N : Nat) (xs ys : List Value) (hs : a.eval s = v) (hx : a.eval x = u) (hown : w.ownsRow base TE k v n xs) (hsrc : SrcC w u m ys) (hyl : ys.length = m * k) (hone : ∀ y ∈ ys, y.oneCell' = true) (hN : N = n + m) (hlen : (n + m) * bytes ≤ 140737488355328) (hnm : n + m ≤ 140737488355328) (hbase : base ≤ w.heap.size)
    (h : ∀ ad cap w', w'.ownsRow base TE k (.slice ad N cap) N (xs ++ ys) → w.grownBy w' v.ownBlock → wpList Try.prog ops Q rest (a.put o.dst (.slice ad N cap)) w') : wpList Try.prog ops Q (o :: rest) a w :=
  BigFrame.wpList_want hw fun _ hK => op_apps TS TE s x ho base k bytes z ht hinfo hzs hk v u n m N xs ys hs hx hown hsrc hyl hone hN hlen hnm hbase fun ad cap w' h1 h2 => hK _ _ (h ad cap w' h1 h2)

/-- As a step of a region that draws, with the place of the answer. -/
theorem appsst2 {K : Act → World → Prop} {E : Prop} (hw : Region.wanted o (yielded ops a.tmps) = true) (TS TE : TypeId) (s x : Operand) (ho : o.op = .call { callee := .builtin .append, args := #[s, x], argTypes := #[TS, TS] }) (base k bytes : Nat) (z : Value) (ht : Try.prog.underlying TS = some (.slice TE)) (hinfo : (Try.prog.info? TE).map (fun i => (i.zero, i.size, i.bytes)) = some (some z, k, bytes)) (hzs : z.cells.size = k) (hk : 0 < k)
    (v u : Value) (n m N : Nat) (xs ys : List Value) (hs : a.eval s = v) (hx : a.eval x = u) (hown : w.ownsRow base TE k v n xs) (hsrc : SrcC w u m ys) (hyl : ys.length = m * k) (hone : ∀ y ∈ ys, y.oneCell' = true) (hN : N = n + m) (hlen : (n + m) * bytes ≤ 140737488355328) (hnm : n + m ≤ 140737488355328) (hbase : base ≤ w.heap.size)
    (h : ∀ ad cap w', w'.ownsRow base TE k (.slice ad N cap) N (xs ++ ys) → w.grownBy w' v.ownBlock → (∀ q, (Value.slice ad N cap).ownBlock = some q → v.ownBlock = some q ∨ w.heap.size ≤ q) → K (a.put o.dst (.slice ad N cap)) w') : if Region.wanted o (yielded ops a.tmps) = true then Oper.wp Try.prog o a w K Q else E := by
  rw [if_pos hw]
  subst hN
  obtain ⟨ad, cap, w', hrun, h1, h2, h3⟩ := run_apps2 w o.type base TS TE k bytes z ht hinfo hzs hk v u n m xs ys hown hsrc hyl hone hlen hnm hbase
  unfold Oper.wp
  simp [execOp, ho, resolve, invoke, builtin, hs, hx, hrun, Result.andThen]
  exact h ad cap w' h1 h2 h3
end

end Go.Proofs.Ytdongghjchnpbaa
