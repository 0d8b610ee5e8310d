/-
  Contracts of shuffle: goes.
-/
import Derived.Test.YtdongghjchnpbaaRowG
import Derived.Test.YtdongghjchnpbaaRowH
namespace Go.Proofs.Ytdongghjchnpbaa
open Go.RowKit Go.Shelf
set_option linter.unusedVariables false

/-- Of tells these nodes, whoever it is. -/
theorem of_nodes (w : World) (b : Nat) (m : Mx) (j : Nat) (h : MxAt w b m) :
    Calls Try.prog 32 #[.pointer (some ⟨b, 0, none⟩), .int .u32 (j : Nat)] w fun e w' => ∃ r v q, e = .returned (.tuple #[.int .i64 (r : Nat), v, .bool q]) ∧ w'.ownsRow w.heap.size 3 1 v (m.nodes j).length ((m.nodes j).map iv) ∧ Below w.heap.size w w' := by
  cases hw : m.where j with
  | none =>
    refine (of_none w b m j h hw).mono ?_
    rintro e w' ⟨rfl, hb⟩
    rw [nodes_of_none hw]
    exact ⟨0, _, _, rfl, World.ownsRow_nil _ _ _ _, hb⟩
  | some f =>
    refine (of_some w b m j f h hw).mono ?_
    rintro e w' ⟨v, rfl, hv, _, hb⟩
    rw [Mx.nodes_of hw]
    exact ⟨f, _, _, rfl, hv, hb⟩

theorem nodes_lt {m : Mx} {j : Nat} : ∀ n ∈ m.nodes j, n < m.n := by
  intro n hn
  unfold Mx.nodes at hn
  split at hn
  · cases hn
  · exact (own_mem.1 hn).1

theorem Mx.goes_snoc (m : Mx) (t : Nat) (J : List Nat) (j : Nat) : m.goes t (J ++ [j]) = (m.goes t J && (m.nodes j).all fun k => m.c (16 * t + k) == 0) := by
  unfold Mx.goes
  rw [List.all_append]; simp

theorem goes_false {m : Mx} {t j k : Nat} {J : List Nat} (hj : j ∈ J) (hk : k ∈ m.nodes j) (hc : m.c (16 * t + k) ≠ 0) : m.goes t J = false := by
  rw [Bool.eq_false_iff]
  intro h
  unfold Mx.goes at h
  rw [List.all_eq_true] at h
  have h1 := h j hj
  rw [List.all_eq_true] at h1
  have := h1 k hk
  simp at this
  exact hc this

/-- An element of a slice that reads so. -/
theorem RdV.at1 {w : World} {a : Option Addr} {n cap : Nat} {xs : List Value} (h : RdV w (.slice a n cap) xs) (k : Nat) (x : Value) (hk : xs[k]? = some x) : n = xs.length ∧ ∃ b off, a = some ⟨b, off, none⟩ ∧ b < w.heap.size ∧ w.cell? ⟨b, off + k, none⟩ = some x := by
  rcases h with ⟨_, he⟩ | ⟨g, o, cap', e, h1, h2, h3, h4⟩
  · subst he; simp at hk
  · simp only [Value.slice.injEq] at e
    obtain ⟨rfl, rfl, rfl⟩ := e
    exact ⟨rfl, g, o, rfl, h3, h4 k x hk⟩

end Go.Proofs.Ytdongghjchnpbaa
