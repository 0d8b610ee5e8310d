/-
  append of bytes at a guarded operation, and as a step of a region that draws.
-/
import Derived.Test.YtbagpckiegpalaaPenKit
import Derived.Test.YtbagpckiegpalaaAppZ
import Derived.BigFrame
import Derived.Deep.RegionLaw
namespace Go.Proofs.Ytbagpckiegpalaa
open Go.RowKit

section
variable {w : World} {ops : Array Oper} {rest : List Oper} {o : Oper} {a : Act} {Q : Exit → Act → World → Prop}

theorem op_app {K : Act → World → Prop} (s x : Operand) (ho : o.op = .call { callee := .builtin .append, args := #[s, x], argTypes := #[32, 32] })
    (base : Nat) (v u : Value) (l m r : List UInt8) (k : Nat) (hs : a.eval s = v) (hx : a.eval x = u) (hown : Own w base v l) (hrd : Rd w u m)
    (hk : k = l.length + m.length) (hr : r = l ++ m) (hbytes : l.length + m.length ≤ 140737488355328) (hbase : base ≤ w.heap.size)
    (h : ∀ ad cap w', Own w' base (.slice ad k cap) r → w.grownBy w' v.ownBlock → K (a.put o.dst (.slice ad k cap)) w') : o.wp Try.prog a w K Q := by
  subst hk; subst hr
  obtain ⟨ad, cap, w', hrun, h1, h2, _⟩ := run_app w o.type base v u l m hown hrd hbytes hbase
  unfold Oper.wp
  simp [execOp, ho, resolve, invoke, builtin, hs, hx, hrun, Result.andThen]
  exact h ad cap w' h1 h2

theorem op_appz {K : Act → World → Prop} (s x : Operand) (ho : o.op = .call { callee := .builtin .append, args := #[s, x], argTypes := #[32, 3] })
    (base : Nat) (v : Value) (z : Int) (l r : List UInt8) (n k : Nat) (hs : a.eval s = v) (hx : a.eval x = .int .i64 z) (hz : z = (n : Int)) (hown : Own w base v l)
    (hk : k = l.length + n) (hr : r = l ++ zeros n) (hbytes : l.length + n ≤ 140737488355328) (hbase : base ≤ w.heap.size)
    (h : ∀ ad cap w', Own w' base (.slice ad k cap) r → w.grownBy w' v.ownBlock → K (a.put o.dst (.slice ad k cap)) w') : o.wp Try.prog a w K Q := by
  subst hk; subst hr; subst hz
  obtain ⟨ad, cap, w', hrun, h1, h2⟩ := run_appz w o.type base v l n hown hbytes hbase
  unfold Oper.wp
  simp [execOp, ho, resolve, invoke, builtin, hs, hx, hrun, Result.andThen]
  exact h ad cap w' h1 h2

theorem appw (hw : Region.wanted o (yielded ops a.tmps) = true) (s x : Operand) (ho : o.op = .call { callee := .builtin .append, args := #[s, x], argTypes := #[32, 32] })
    (base : Nat) (v u : Value) (l m r : List UInt8) (k : Nat) (hs : a.eval s = v) (hx : a.eval x = u) (hown : Own w base v l) (hrd : Rd w u m)
    (hk : k = l.length + m.length) (hr : r = l ++ m) (hbytes : l.length + m.length ≤ 140737488355328) (hbase : base ≤ w.heap.size)
    (h : ∀ ad cap w', Own w' base (.slice ad k cap) r → w.grownBy w' v.ownBlock → wpList Try.prog ops Q rest (a.put o.dst (.slice ad k cap)) w') : wpList Try.prog ops Q (o :: rest) a w :=
  BigFrame.wpList_want hw fun _ hK => op_app s x ho base v u l m r k hs hx hown hrd hk hr hbytes hbase fun ad cap w' h1 h2 => hK _ _ (h ad cap w' h1 h2)

theorem appzw (hw : Region.wanted o (yielded ops a.tmps) = true) (s x : Operand) (ho : o.op = .call { callee := .builtin .append, args := #[s, x], argTypes := #[32, 3] })
    (base : Nat) (v : Value) (z : Int) (l r : List UInt8) (n k : Nat) (hs : a.eval s = v) (hx : a.eval x = .int .i64 z) (hz : z = (n : Int)) (hown : Own w base v l)
    (hk : k = l.length + n) (hr : r = l ++ zeros n) (hbytes : l.length + n ≤ 140737488355328) (hbase : base ≤ w.heap.size)
    (h : ∀ ad cap w', Own w' base (.slice ad k cap) r → w.grownBy w' v.ownBlock → wpList Try.prog ops Q rest (a.put o.dst (.slice ad k cap)) w') : wpList Try.prog ops Q (o :: rest) a w :=
  BigFrame.wpList_want hw fun _ hK => op_appz s x ho base v z l r n k hs hx hz hown hk hr hbytes hbase fun ad cap w' h1 h2 => hK _ _ (h ad cap w' h1 h2)

theorem appst {K : Act → World → Prop} {E : Prop} (hw : Region.wanted o (yielded ops a.tmps) = true) (s x : Operand) (ho : o.op = .call { callee := .builtin .append, args := #[s, x], argTypes := #[32, 32] })
    (base : Nat) (v u : Value) (l m r : List UInt8) (k : Nat) (hs : a.eval s = v) (hx : a.eval x = u) (hown : Own w base v l) (hrd : Rd w u m)
    (hk : k = l.length + m.length) (hr : r = l ++ m) (hbytes : l.length + m.length ≤ 140737488355328) (hbase : base ≤ w.heap.size)
    (h : ∀ ad cap w', Own w' base (.slice ad k cap) r → w.grownBy w' v.ownBlock → K (a.put o.dst (.slice ad k cap)) w') : if Region.wanted o (yielded ops a.tmps) = true then Oper.wp Try.prog o a w K Q else E := by
  rw [if_pos hw]
  exact op_app s x ho base v u l m r k hs hx hown hrd hk hr hbytes hbase h

theorem appzst {K : Act → World → Prop} {E : Prop} (hw : Region.wanted o (yielded ops a.tmps) = true) (s x : Operand) (ho : o.op = .call { callee := .builtin .append, args := #[s, x], argTypes := #[32, 3] })
    (base : Nat) (v : Value) (z : Int) (l r : List UInt8) (n k : Nat) (hs : a.eval s = v) (hx : a.eval x = .int .i64 z) (hz : z = (n : Int)) (hown : Own w base v l)
    (hk : k = l.length + n) (hr : r = l ++ zeros n) (hbytes : l.length + n ≤ 140737488355328) (hbase : base ≤ w.heap.size)
    (h : ∀ ad cap w', Own w' base (.slice ad k cap) r → w.grownBy w' v.ownBlock → K (a.put o.dst (.slice ad k cap)) w') : if Region.wanted o (yielded ops a.tmps) = true then Oper.wp Try.prog o a w K Q else E := by
  rw [if_pos hw]
  exact op_appz s x ho base v z l r n k hs hx hz hown hk hr hbytes hbase h
end

end Go.Proofs.Ytbagpckiegpalaa
