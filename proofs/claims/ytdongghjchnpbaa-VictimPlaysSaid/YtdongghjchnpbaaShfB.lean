/-
  Contracts of shuffle: shift.
-/
import Derived.Test.YtdongghjchnpbaaShfA
import Derived.Test.YtdongghjchnpbaaAppR
namespace Go.Proofs.Ytdongghjchnpbaa
open Go.RowKit Go.Shelf
set_option linter.unusedVariables false

/-- A move's cells. -/
def mvc (x : Nat × Nat × Nat) : List Value := [uv x.1, iv x.2.1, iv x.2.2]
def mvcs (l : List (Nat × Nat × Nat)) : List Value := l.flatMap mvc
theorem mvcs_append (l k : List (Nat × Nat × Nat)) : mvcs (l ++ k) = mvcs l ++ mvcs k := by simp [mvcs]
theorem mvcs_len (l : List (Nat × Nat × Nat)) : (mvcs l).length = l.length * 3 := by
  induction l with
  | nil => rfl
  | cons x l ih => rw [show mvcs (x :: l) = mvc x ++ mvcs l from rfl, List.length_append, ih, show (mvc x).length = 3 from rfl, List.length_cons]; omega
theorem mvcs_one (l : List (Nat × Nat × Nat)) : ∀ y ∈ mvcs l, y.oneCell' = true := by
  intro y hy
  unfold mvcs at hy
  rw [List.mem_flatMap] at hy
  obtain ⟨x, _, hy⟩ := hy
  simp only [mvc, List.mem_cons, List.not_mem_nil, or_false] at hy
  rcases hy with rfl | rfl | rfl <;> rfl

theorem own_rising (m : Mx) (i j : Nat) : (m.own i j).Pairwise (· < ·) := List.Pairwise.sublist List.filter_sublist List.pairwise_lt_range

theorem shift_snoc (m : Mx) (f t : Nat) (J : List Nat) (j : Nat) : m.shift f t (J ++ [j]) = (m.shift f t J).mv j f t := by simp [Mx.shift]
theorem shift_r (f t : Nat) : ∀ (J : List Nat) (m : Mx), (m.shift f t J).r = m.r
  | [], _ => rfl
  | j :: J, m => (shift_r f t J (m.mv j f t)).trans (mv_r _ _ _ _)
theorem shift_n (f t : Nat) : ∀ (J : List Nat) (m : Mx), (m.shift f t J).n = m.n
  | [], _ => rfl
  | j :: J, m => (shift_n f t J (m.mv j f t)).trans (mv_n _ _ _ _)

/-- Behind some moves the others may still go. -/
theorem shift_mid {f t : Nat} : ∀ (J1 : List Nat) {m : Mx} {J2 : List Nat}, m.n ≤ 16 → One m → (J1 ++ J2).Nodup → (∀ j ∈ J1 ++ J2, CanGo m j f t) → One (m.shift f t J1) ∧ ∀ j ∈ J2, CanGo (m.shift f t J1) j f t
  | [], m, J2, _, ho, _, hc => ⟨ho, hc⟩
  | j :: J1, m, J2, hn, ho, hd, hc => by
    rw [List.cons_append, List.nodup_cons] at hd
    have h0 := hc j (by simp)
    refine shift_mid J1 (m := m.mv j f t) (by rw [mv_n]; exact hn) (mv_one hn ho h0) hd.2 fun j' hj' => ?_
    exact h0.mv hn ho (hc j' (by rw [List.cons_append]; exact List.mem_cons_of_mem _ hj')) (fun e => hd.1 (e ▸ hj'))

/-- Behind its removal it stands nowhere. -/
theorem gone_where {m : Mx} {j f t : Nat} (hn : m.n ≤ 16) (ho : One m) (hc : CanGo m j f t) : (m.stand f (m.own f j) 0).where j = none := by
  refine where_none_of fun i hi => ?_
  rw [Mx.stand_r] at hi
  by_cases e : i = f
  · subst e; exact own_gone_self hn hc.j0
  · rw [own_gone hn hc.j0 (.inr e)]
    apply Classical.byContradiction
    intro h
    exact e (ho j i f hc.j0 hi hc.fr h hc.own)

theorem gone_fit {m : Mx} {j f t : Nat} (hn : m.n ≤ 16) (hc : CanGo m j f t) : (m.stand f (m.own f j) 0).fit t (m.own f j) = true := by
  unfold Mx.fit
  rw [List.all_eq_true]
  intro k hk
  rw [Mx.stand_cell _ _ _ _ _ _ (own_lt hn) (own_lt hn k hk)]
  rw [if_neg (fun h => hc.ne h.1.symm), hc.fits k hk]
  rfl

theorem own_okl {m : Mx} {j f : Nat} (h : m.own f j ≠ []) : OkL m.n (m.own f j) := OkL.of h (fun x hx => (own_mem.1 hx).1) (own_rising m f j)

theorem CanGo.j32 {w : World} {b : Nat} {m : Mx} {j f t : Nat} (h : MxAt w b m) (hc : CanGo m j f t) : j < 4294967296 := by
  obtain ⟨k, hk⟩ := List.exists_mem_of_ne_nil _ hc.own
  rw [← (own_mem.1 hk).2]
  exact h.c32 _

end Go.Proofs.Ytdongghjchnpbaa
