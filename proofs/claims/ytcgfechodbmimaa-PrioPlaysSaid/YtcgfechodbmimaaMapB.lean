/-
  A map of bools that the law makes itself: what it tells of each key.
-/
import Derived.Test.YtcgfechodbmimaaKit
import Derived.Maps.Own
import Derived.Maps.OwnOps
import Derived.Maps.Views
import Derived.DataShut
namespace Go.Proofs.Ytcgfechodbmimaa
open Go.RowKit
set_option linter.unusedVariables false

theorem wf_row {n : Nat} (h : n < 1000000) : (Lit.int .i64 (n : Int)).wf = true := (Lit.wf_int_iff _ _).2 ⟨by show (-9223372036854775808 : Int) ≤ _; omega, by show _ ≤ (9223372036854775807 : Int); omega⟩

/-- Block b is a map that tells S of each number. -/
def SetAt (k e : TypeId) (q : IntKind) (w : World) (b n : Nat) (S : Int → Bool) : Prop :=
  ∃ D : DataW Unit, w.ownsMap Try.prog k (plainElem Try.prog e) b n D ∧ Maps.IsMap D ∧ ∀ x, (Lit.int q x).wf = true → D.atKey (.int q x) (.lit (.bool false)) = .lit (.bool (S x))

theorem SetAt.new (k e : TypeId) (q : IntKind) (w : World) : SetAt k e q (w.alloc (.map #[] 0)) w.heap.size 0 (fun _ => false) :=
  ⟨.map [], World.ownsMap_made _ _ _ _, ⟨_, rfl⟩, fun _ _ => rfl⟩

theorem SetAt.block {k e : TypeId} {q : IntKind} {w w' : World} {b n : Nat} {S : Int → Bool} (h : SetAt k e q w b n S) (hb : w'.heap[b]? = w.heap[b]?) : SetAt k e q w' b n S := by
  obtain ⟨D, ⟨es, clock, h1, h2, h3, h4⟩, hm, ha⟩ := h
  exact ⟨D, ⟨es, clock, hb.trans h1, h2, h3, h4⟩, hm, ha⟩

theorem SetAt.lt {k e : TypeId} {q : IntKind} {w : World} {b n : Nat} {S : Int → Bool} (h : SetAt k e q w b n S) : b < w.heap.size := by
  obtain ⟨D, ⟨es, clock, h1, h2, h3, h4⟩, hm, ha⟩ := h
  exact (Array.getElem?_eq_some_iff.1 h1).1

theorem plainElem_bool_inv {e : TypeId} (he : Try.prog.underlying e = some .bool) {v : Value} {z : DataW Unit × List MemPlace} (h : plainElem Try.prog e v = some z) : ∃ c, v = .bool c ∧ z = (.lit (.bool c), []) := by
  unfold plainElem at h
  rw [he] at h
  cases v <;> simp at h
  exact ⟨_, rfl, h.symm⟩

section
variable {w : World} {ops : Array Oper} {rest : List Oper} {o : Oper} {a : Act} {Q : Exit → Act → World → Prop}

theorem set_look (hg : o.guard = none) (m x : Operand) (t k e : TypeId) (q : IntKind) (hop : o.op = Op.lookup t m x false) (ht : Try.prog.underlying t = some (.map k e)) (hk : Try.prog.underlying k = some (.int q)) (he : Try.prog.underlying e = some .bool) (hz : (zeroValue e).run Try.prog w = .ok (.bool false) w)
    (b n : Nat) (S : Int → Bool) (z : Int) (hm : a.eval m = .map (some b)) (hx : a.eval x = .int q z) (hwz : (Lit.int q z).wf = true) (h : SetAt k e q w b n S)
    (hK : wpList Try.prog ops Q rest (a.put o.dst (.bool (S z))) w) : wpList Try.prog ops Q (o :: rest) a w := by
  refine wpList_plain hg fun K' hK' => ?_
  obtain ⟨D, hown, hmap, hat⟩ := h
  obtain ⟨v, ps, hrun, hv⟩ := hown.lookup (Maps.int_keyed hk) ht hz (plainElem_bool he false) (Maps.keyOf_int_mk hk hwz)
  obtain ⟨c, rfl, hc⟩ := plainElem_bool_inv he hv
  simp only [Prod.mk.injEq] at hc
  have e1 := (hat z hwz).symm.trans hc.1
  have e2 : S z = c := by
    have := e1
    simp at this
    exact this
  unfold Oper.wp
  simp [execOp, hop, hm, hx, hrun, Result.andThen]
  rw [← e2]
  exact hK' _ _ hK

theorem set_put (hg : o.guard = none) (m x v : Operand) (t k e : TypeId) (q : IntKind) (hop : o.op = Op.mapUpdate t m x v) (ht : Try.prog.underlying t = some (.map k e)) (hk : Try.prog.underlying k = some (.int q)) (he : Try.prog.underlying e = some .bool)
    (b n : Nat) (S : Int → Bool) (z : Int) (c : Bool) (hm : a.eval m = .map (some b)) (hx : a.eval x = .int q z) (hv : a.eval v = .bool c) (hwz : (Lit.int q z).wf = true) (h : SetAt k e q w b n S) (hn : n < maxLen)
    (hK : ∀ w', SetAt k e q w' b (n + 1) (fun y => if y = z then c else S y) → w.grownBy w' (some b) → wpList Try.prog ops Q rest (a.put o.dst undef) w') : wpList Try.prog ops Q (o :: rest) a w := by
  obtain ⟨D, hown, hmap, hat⟩ := h
  refine wpList_mapUpdate_own w hg m x v t hop k e (Maps.int_keyed hk) ht _ b n D hm hown hn (.int q z) (.bool c) (.int q z) hx hv (Maps.keyOf_int_mk hk hwz) (.lit (.bool c)) [] (plainElem_bool he c) ?_
  intro w' h1 h2
  refine hK w' ⟨_, h1, ?_, fun y hy => ?_⟩ h2
  · obtain ⟨es, rfl⟩ := hmap
    exact ⟨_, rfl⟩
  · by_cases e1 : y = z
    · subst e1
      rw [Maps.atKey_put_same hmap (by exact trivial)]
      show _ = DataW.lit (.bool (if y = y then c else S y))
      rw [if_pos rfl]
    · rw [Maps.atKey_put_other (by intro e2; cases e2; exact e1 rfl)]
      show _ = DataW.lit (.bool (if y = z then c else S y))
      rw [if_neg e1]
      exact hat y hy
end

end Go.Proofs.Ytcgfechodbmimaa
