/-
  Plain words: the knot of the text in front is what stands in front, just if the sum is right.
-/
import Derived.Test.YtahiaifdfgkemaaUntie
namespace Go.Proofs.Ytahiaifdfgkemaa.Knot

theorem byteOf_num (q : List UInt8) (j : Nat) (hj : j < 4) : byteOf (num q 4) j = q.getD j 0 := by
  apply UInt8.eq_of_toBitVec_eq
  apply BitVec.eq_of_getLsbD_eq
  intro k hk
  rw [byteOf_bit _ _ _ hk, num_bit _ _ _ (by omega) (by omega), show (8 * j + k) / 8 = j by omega, show (8 * j + k) % 8 = k by omega]
  simp; omega

theorem le32_num (q : List UInt8) (hq : 4 ≤ q.length) : le32 (num q 4) = q.take 4 := by
  apply List.ext_getElem?
  intro i
  unfold le32
  match i with
  | 0 => simp [byteOf_num, List.getElem?_eq_getElem (show 0 < q.length by omega)]
  | 1 => simp [byteOf_num, List.getElem?_eq_getElem (show 1 < q.length by omega)]
  | 2 => simp [byteOf_num, List.getElem?_eq_getElem (show 2 < q.length by omega)]
  | 3 => simp [byteOf_num, List.getElem?_eq_getElem (show 3 < q.length by omega)]
  | i + 4 => simp [List.getElem?_take]; omega

theorem head_front (p : List UInt8) (h2 : 2 ≤ p.length) : head (size p) = p.take 2 := by
  match p, h2 with
  | a :: b :: r, _ =>
    have ha : a.toNat < 256 := a.toNat_lt
    have hb : b.toNat < 256 := b.toNat_lt
    unfold head size
    simp only [List.getD_cons_zero, List.getD_cons_succ, List.take_succ_cons, List.take_zero]
    have e1 : UInt8.ofNat (a.toNat + 256 * b.toNat) = a := by
      apply UInt8.toNat_inj.1
      rw [UInt8.toNat_ofNat']
      omega
    have e2 : UInt8.ofNat ((a.toNat + 256 * b.toNat) / 256) = b := by
      apply UInt8.toNat_inj.1
      rw [UInt8.toNat_ofNat']
      omega
    rw [e1, e2]

theorem body_front (p : List UInt8) (h : size p + 2 ≤ p.length) : body ((p.drop 2).take (size p)) = p.take (size p + 2) := by
  have hl : ((p.drop 2).take (size p)).length = size p := by simp; omega
  unfold body
  rw [hl, head_front p (by omega), Nat.add_comm (size p) 2, List.take_add]

/-- Whether the knot of the text in front is what stands there. -/
theorem knot_front (p : List UInt8) (h : size p + 6 ≤ p.length) :
    (knot ((p.drop 2).take (size p)) == p.take (size p + 6)) = decide (Crc.sum (p.take (size p + 2)) = num (p.drop (size p + 2)) 4) := by
  unfold knot
  rw [body_front p (by omega), show size p + 6 = (size p + 2) + 4 by omega, show p.take (size p + 2 + 4) = p.take (size p + 2) ++ (p.drop (size p + 2)).take 4 from List.take_add]
  by_cases c : Crc.sum (p.take (size p + 2)) = num (p.drop (size p + 2)) 4
  · rw [decide_eq_true c, c, le32_num _ (by simp; omega)]
    simp
  · rw [decide_eq_false c, beq_eq_false_iff_ne]
    intro e
    have e' := List.append_cancel_left e
    apply c
    rw [← num_le32 (Crc.sum (p.take (size p + 2))), e']
    refine num_congr _ _ 4 (fun j hj => ?_)
    simp [hj]

end Go.Proofs.Ytahiaifdfgkemaa.Knot
namespace Go.Proofs.Ytahiaifdfgkemaa
open Go.RowKit

/-- 'append([]byte{}, u...)': a copy in new memory (or the empty slice itself); nothing that was there turns. -/
theorem run_fresh (w : World) (ty : TypeId) (base g : Nat) (u : Value) (m : List UInt8) (hh : w.heap[g]? = some (.cells #[] 5 (0, 0))) (hb : base ≤ g) (hb2 : base ≤ w.heap.size) (hrd : Rd w u m) (hm : m.length ≤ 140737488355328) :
    ∃ v' w', (Builtin.append_ #[46, 46] ty #[.slice (some ⟨g, 0, none⟩) 0 0, u]).run Try.prog w = .ok v' w' ∧ Own w' base v' m ∧ Below w.heap.size w w' := by
  have hown : Own w base (.slice (some ⟨g, 0, none⟩) 0 0) [] := ⟨rfl, .inr ⟨g, 0, #[], rfl, hb, hh, Nat.le_refl _, Nat.zero_le _, rfl, rfl⟩⟩
  obtain ⟨i, hi, hz0, hz1, hz2⟩ := info_parts Try.infoU8
  rcases hrd.cases with ⟨rfl, rfl⟩ | ⟨xa, cap, rfl, h1, h2, h4⟩
  · exact ⟨_, w, run_append_owned_none (P := Try.prog) (w := w) base 46 ty 5 i 1 Try.underlying46 hi _ _ _ hown, hown, Below.refl _ _⟩
  · by_cases hm0 : m = []
    · subst hm0
      have hr := run_append_room (P := Try.prog) w 46 ty 5 i Try.underlying46 hi g 0 0 #[] hh xa 0 cap [] (by simp) (by simp) (by simp) (Nat.le_refl _) (by simp)
      refine ⟨_, _, hr, ?_, ⟨rfl, rfl, rfl, by simp, fun k hk => ?_⟩⟩
      · refine ⟨rfl, .inr ⟨g, 0, #[], rfl, hb, ?_, Nat.le_refl _, Nat.zero_le _, rfl, rfl⟩⟩
        rw [setRow_heap w g #[] _ 5 _ hh]
        simp
      · by_cases e : k = g
        · subst e
          rw [setRow_heap w k #[] _ 5 _ hh, hh]
          simp
        · exact setRow_other w g k _ e
    · have hpos : 0 < m.length := by
        rcases Nat.eq_zero_or_pos m.length with h | h
        · exact absurd (List.eq_nil_of_length_eq_zero h) hm0
        · exact h
      obtain ⟨v', w', hrun, r1, r2⟩ := run_append_arg_grows (P := Try.prog) w 46 ty 5 i (.int .u8 0) 1 1 Try.underlying46 hi hz0 hz1 hz2 rfl (by decide) ⟨g, 0, none⟩ 0 0 [] rfl (by simp) xa m.length cap (m.map bv) (by simp) (fun j y hj => by
        rw [List.getElem?_map] at hj
        have hlt : j < m.length := by
          rcases Nat.lt_or_ge j m.length with h' | h'
          · exact h'
          · rw [List.getElem?_eq_none h'] at hj; cases hj
        rw [h4 j hlt]
        rw [List.getElem?_eq_getElem hlt] at hj
        simp at hj
        rw [← hj]
        simp [List.getElem?_eq_getElem hlt]) (by omega) (by unfold maxLen; omega) (by omega)
      refine ⟨v', w', hrun, ?_, ⟨r2.os, r2.tape, r2.output, r2.size, fun k hk => r2.block k hk (by simp)⟩⟩
      have ho : Own w' w.heap.size v' m := by
        unfold Own
        simpa using r1
      exact ho.base (fun k hk => Nat.le_trans hb2 (ho.lt k hk).1)

/-- The same as one step of a region that draws its order. w0: the world when the call began. -/
theorem step_fresh {ops : Array Oper} {o : Oper} {a : Act} {w : World} {K : Act → World → Prop} {Q : Exit → Act → World → Prop} {E : Prop}
    (hg : o.guard = none) (s x : Operand) (hop : o.op = Op.call { callee := Callee.builtin Builtin.append, args := #[s, x], argTypes := #[46, 46] })
    (w0 : World) (g : Nat) (u : Value) (m : List UInt8) (hs : a.eval s = .slice (some ⟨g, 0, none⟩) 0 0) (hx : a.eval x = u) (hh : w.heap[g]? = some (.cells #[] 5 (0, 0))) (hb : w0.heap.size ≤ g)
    (hi : Below w0.heap.size w0 w) (hrd : Rd w0 u m) (hm : m.length ≤ 140737488355328)
    (hK : ∀ v' w', Own w' w0.heap.size v' m → Below w.heap.size w w' → Below w0.heap.size w0 w' → K (a.put o.dst v') w') :
    if Region.wanted o (yielded ops a.tmps) = true then Oper.wp Try.prog o a w K Q else E := by
  have hw : Region.wanted o (yielded ops a.tmps) = true := by simp [Region.wanted, hg]
  rw [if_pos hw]
  obtain ⟨v', w', hrun, ho, hbl⟩ := run_fresh w o.type w0.heap.size g u m hh hb hi.size (hrd.below hi) hm
  unfold Oper.wp
  simp [execOp, hop, resolve, invoke, builtin, hs, hx, hrun, Result.andThen]
  exact hK v' w' ho hbl (hi.trans (hbl.mono hi.size))

end Go.Proofs.Ytahiaifdfgkemaa
