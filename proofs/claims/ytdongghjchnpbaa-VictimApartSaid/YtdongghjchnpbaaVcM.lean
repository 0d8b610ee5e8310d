/-
  Victim, plainly: who goes, in which order; the least harm.
-/
import Derived.Test.YtdongghjchnpbaaRowU
namespace Go.Proofs.Ytdongghjchnpbaa
open Go.RowKit
set_option linter.unusedVariables false

/-- A job, and its tier. -/
abbrev Cd := Nat × Nat

/-- a goes ahead of b. -/
def CBef (a b : Cd) : Prop := a.2 < b.2 ∨ a.2 = b.2 ∧ b.1 < a.1
instance (a b : Cd) : Decidable (CBef a b) := inferInstanceAs (Decidable (_ ∨ _ ∧ _))

theorem cbef_irr (a : Cd) : ¬ CBef a a := by unfold CBef; omega
theorem cbef_asym {a b : Cd} (h : CBef a b) : ¬ CBef b a := by unfold CBef at *; omega
theorem cbef_trans {a b c : Cd} (h : CBef a b) (k : CBef b c) : CBef a c := by unfold CBef at *; omega
theorem cbef_ntrans {a b c : Cd} (h : ¬ CBef a b) (k : ¬ CBef b c) : ¬ CBef a c := by unfold CBef at *; omega
theorem cbef_total {a b : Cd} (h : a ≠ b) : CBef a b ∨ CBef b a := by
  by_cases h1 : a.1 = b.1
  · have h2 : a.2 ≠ b.2 := fun e => h (Prod.ext h1 e)
    unfold CBef; omega
  · unfold CBef; omega

def sortC (q : List Cd) : List Cd := q.mergeSort fun x y => !decide (CBef y x)
theorem sortC_perm (q : List Cd) : (sortC q).Perm q := List.mergeSort_perm _ _
theorem sortC_len (q : List Cd) : (sortC q).length = q.length := (sortC_perm q).length_eq
theorem sortC_sorted {q : List Cd} (h : q.Nodup) : (sortC q).Pairwise CBef := by
  have hs : (sortC q).Pairwise (fun a b => (!decide (CBef b a)) = true) := List.pairwise_mergeSort (fun a b c h1 h2 => by
    simp only [Bool.not_eq_true', decide_eq_false_iff_not] at *
    exact cbef_ntrans h2 h1) (fun a b => by
    simp only [Bool.or_eq_true, Bool.not_eq_true', decide_eq_false_iff_not]
    by_cases hb : CBef b a
    · exact .inr (cbef_asym hb)
    · exact .inl hb) q
  have hnd : (sortC q).Pairwise (fun a b => a ≠ b) := (sortC_perm q).symm.nodup h
  refine (hs.and hnd).imp ?_
  rintro a b ⟨h1, h2⟩
  simp only [Bool.not_eq_true', decide_eq_false_iff_not] at h1
  rcases cbef_total h2 with hb | hb
  · exact hb
  · exact absurd hb h1

/-- What is said of a job first. -/
def firstC (l : List Cd) (j : Nat) : Option Cd := l.find? fun c => c.1 == j
def lowC (l : List Cd) (tier j : Nat) : Option Cd := match firstC l j with | some c => if c.2 < tier then some c else none | none => none
/-- Who stands in a row and is below the tier; these in the order in which they go. -/
def Mx.lows (m : Mx) (row : Nat) (l : List Cd) (tier : Nat) : List Cd := (m.row row).filterMap (lowC l tier)
def Mx.who (m : Mx) (row : Nat) (l : List Cd) (tier : Nat) : List Cd := sortC (m.lows row l tier)
/-- How many cells a job has at nodes that are up. -/
def Mx.upN (m : Mx) (row j : Nat) : Nat := ((m.own row j).filter fun k => !m.d k).length
def Mx.cnt (m : Mx) (j : Nat) : Nat := match m.where j with | some r => m.upN r j | none => 0
def Mx.sumC (m : Mx) (q : List Cd) : Nat := (q.map fun c => m.cnt c.1).sum

theorem lowC_some {l : List Cd} {tier j : Nat} {c : Cd} (h : lowC l tier j = some c) : c ∈ l ∧ c.1 = j ∧ c.2 < tier := by
  unfold lowC at h
  cases e : firstC l j with
  | none => rw [e] at h; cases h
  | some d =>
    rw [e] at h
    simp only at h
    split at h
    · cases h
      unfold firstC at e
      exact ⟨List.mem_of_find?_eq_some e, by simpa using List.find?_some e, by assumption⟩
    · cases h

theorem Mx.sumC_nil (m : Mx) : m.sumC [] = 0 := rfl
theorem Mx.sumC_cons (m : Mx) (c : Cd) (q : List Cd) : m.sumC (c :: q) = m.cnt c.1 + m.sumC q := by simp [Mx.sumC]
theorem Mx.sumC_snoc (m : Mx) (q : List Cd) (c : Cd) : m.sumC (q ++ [c]) = m.sumC q + m.cnt c.1 := by simp [Mx.sumC]

/-- Who goes so that there is room for k, of these one behind the other. -/
def Mx.lv (m : Mx) (k : Int) : Nat → List Cd → Option (List Cd)
  | room, [] => if (room : Int) < k then none else some []
  | room, c :: r => if (room : Int) < k then (m.lv k (room + m.cnt c.1) r).map (c :: ·) else some []

theorem Mx.lv_some {m : Mx} {k : Int} : ∀ {who : List Cd} {room : Nat} {q : List Cd}, m.lv k room who = some q → ∃ n, n ≤ who.length ∧ q = who.take n ∧ k ≤ ((room + m.sumC (who.take n) : Nat) : Int) ∧ ∀ i, i < n → ((room + m.sumC (who.take i) : Nat) : Int) < k
  | [], room, q, h => by
    unfold Mx.lv at h
    split at h
    · cases h
    · cases h
      exact ⟨0, Nat.le_refl _, rfl, by simp only [List.take_nil, Mx.sumC_nil]; omega, fun i hi => by omega⟩
  | c :: r, room, q, h => by
    unfold Mx.lv at h
    split at h
    · rename_i hlt
      cases e : m.lv k (room + m.cnt c.1) r with
      | none => rw [e] at h; cases h
      | some p =>
        rw [e] at h
        simp only [Option.map_some, Option.some.injEq] at h
        obtain ⟨n, h1, h2, h3, h4⟩ := Mx.lv_some e
        refine ⟨n + 1, by simpa using h1, by rw [← h, h2]; rfl, ?_, ?_⟩
        · rw [List.take_succ_cons, Mx.sumC_cons]; omega
        · intro i hi
          cases i with
          | zero => rw [List.take_zero, Mx.sumC_nil]; omega
          | succ i =>
            have := h4 i (by omega)
            rw [List.take_succ_cons, Mx.sumC_cons]; omega
    · cases h
      exact ⟨0, by simp, rfl, by rw [List.take_zero, Mx.sumC_nil]; omega, fun i hi => by omega⟩

theorem Mx.lv_none {m : Mx} {k : Int} : ∀ {who : List Cd} {room : Nat}, m.lv k room who = none → ∀ i, i ≤ who.length → ((room + m.sumC (who.take i) : Nat) : Int) < k
  | [], room, h, i, hi => by
    unfold Mx.lv at h
    split at h
    · rw [List.take_nil, Mx.sumC_nil]; omega
    · cases h
  | c :: r, room, h, i, hi => by
    unfold Mx.lv at h
    split at h
    · cases e : m.lv k (room + m.cnt c.1) r with
      | some p => rw [e] at h; cases h
      | none =>
        cases i with
        | zero => rw [List.take_zero, Mx.sumC_nil]; omega
        | succ i =>
          have := Mx.lv_none e i (by simpa using hi)
          rw [List.take_succ_cons, Mx.sumC_cons]; omega
    · cases h

theorem Mx.lv_of {m : Mx} {k : Int} {who : List Cd} {room n : Nat} (hn : n ≤ who.length) (h1 : k ≤ ((room + m.sumC (who.take n) : Nat) : Int)) (h2 : ∀ i, i < n → ((room + m.sumC (who.take i) : Nat) : Int) < k) : m.lv k room who = some (who.take n) := by
  cases e : m.lv k room who with
  | none => exact absurd (Mx.lv_none e n hn) (by omega)
  | some q =>
    obtain ⟨n', h3, rfl, h4, h5⟩ := Mx.lv_some e
    rcases Nat.lt_trichotomy n n' with h | h | h
    · exact absurd (h5 n h) (by omega)
    · rw [h]
    · exact absurd (h2 n' h) (by omega)

theorem Mx.lv_of_none {m : Mx} {k : Int} {who : List Cd} {room : Nat} (h : ∀ i, i ≤ who.length → ((room + m.sumC (who.take i) : Nat) : Int) < k) : m.lv k room who = none := by
  cases e : m.lv k room who with
  | none => rfl
  | some q =>
    obtain ⟨n', h3, -, h4, -⟩ := Mx.lv_some e
    exact absurd (h n' h3) (by omega)

/-- Who has to go of a row. -/
def Mx.leave (m : Mx) (row : Nat) (l : List Cd) (tier : Nat) (k : Int) : Option (List Cd) := if k < 1 then none else m.lv k (m.free row).length (m.who row l tier)

theorem Mx.who_len (m : Mx) (row : Nat) (l : List Cd) (tier : Nat) : (m.who row l tier).length ≤ m.n := by
  unfold Mx.who
  rw [sortC_len]
  refine Nat.le_trans (List.length_filterMap_le _ _) ?_
  refine Nat.le_trans (jobs_len _ _) ?_
  exact m.at_len _

theorem Mx.leave_sub {m : Mx} {row : Nat} {l : List Cd} {tier : Nat} {k : Int} {q : List Cd} (h : m.leave row l tier k = some q) : ∃ n, n ≤ (m.who row l tier).length ∧ q = (m.who row l tier).take n := by
  unfold Mx.leave at h
  split at h
  · cases h
  · obtain ⟨n, h1, h2, -⟩ := Mx.lv_some h
    exact ⟨n, h1, h2⟩

theorem Mx.leave_len {m : Mx} {row : Nat} {l : List Cd} {tier : Nat} {k : Int} {q : List Cd} (h : m.leave row l tier k = some q) : q.length ≤ m.n := by
  obtain ⟨n, h1, rfl⟩ := Mx.leave_sub h
  have := m.who_len row l tier
  rw [List.length_take]; omega

/-- The greatest tier of those who go. -/
def grC (q : List Cd) : Int := match q.getLast? with | none => -1 | some c => c.2
def Harm (q p : List Cd) : Prop := q.length < p.length ∨ q.length = p.length ∧ grC q < grC p
instance (q p : List Cd) : Decidable (Harm q p) := inferInstanceAs (Decidable (_ ∨ _ ∧ _))

def step15 (f : Nat → Option (List Cd)) (best : Option (Nat × List Cd)) (row : Nat) : Option (Nat × List Cd) :=
  match f row with
  | none => best
  | some q => match best with
    | none => some (row, q)
    | some p => if Harm q p.2 then some (row, q) else some p

def best15 (f : Nat → Option (List Cd)) (r : Nat) : Option (Nat × List Cd) := (List.range r).foldl (step15 f) none

theorem best15_succ (f : Nat → Option (List Cd)) (r : Nat) : best15 f (r + 1) = step15 f (best15 f r) r := by
  unfold best15
  rw [List.range_succ, List.foldl_append]; rfl

theorem best15_none {f : Nat → Option (List Cd)} : ∀ {r : Nat}, best15 f r = none → ∀ i, i < r → f i = none
  | 0, _, i, hi => by omega
  | r + 1, h, i, hi => by
    rw [best15_succ] at h
    unfold step15 at h
    cases e : f r with
    | none =>
      rw [e] at h
      by_cases hr : i = r
      · rw [hr]; exact e
      · exact best15_none h i (by omega)
    | some q =>
      rw [e] at h
      simp only at h
      split at h
      · cases h
      · split at h <;> cases h

theorem best15_some {f : Nat → Option (List Cd)} : ∀ {r b : Nat} {p : List Cd}, best15 f r = some (b, p) → b < r ∧ f b = some p ∧ ∀ i, i < r → ∀ q, f i = some q → p.length ≤ q.length
  | 0, b, p, h => by cases h
  | r + 1, b, p, h => by
    rw [best15_succ] at h
    unfold step15 at h
    cases e : f r with
    | none =>
      rw [e] at h
      obtain ⟨h1, h2, h3⟩ := best15_some h
      refine ⟨by omega, h2, fun i hi q hq => ?_⟩
      by_cases hr : i = r
      · rw [hr, e] at hq; cases hq
      · exact h3 i (by omega) q hq
    | some q =>
      rw [e] at h
      simp only at h
      cases e2 : best15 f r with
      | none =>
        rw [e2] at h
        simp only [Option.some.injEq, Prod.mk.injEq] at h
        obtain ⟨rfl, rfl⟩ := h
        refine ⟨by omega, e, fun i hi q' hq => ?_⟩
        by_cases hr : i = r
        · rw [hr, e] at hq; cases hq; exact Nat.le_refl _
        · rw [best15_none e2 i (by omega)] at hq; cases hq
      | some p0 =>
        obtain ⟨b0, p0⟩ := p0
        obtain ⟨h1, h2, h3⟩ := best15_some e2
        rw [e2] at h
        simp only at h
        split at h
        · rename_i hh
          simp only [Option.some.injEq, Prod.mk.injEq] at h
          obtain ⟨rfl, rfl⟩ := h
          refine ⟨by omega, e, fun i hi q' hq => ?_⟩
          by_cases hr : i = r
          · rw [hr, e] at hq; cases hq; exact Nat.le_refl _
          · have := h3 i (by omega) q' hq
            unfold Harm at hh; omega
        · rename_i hh
          simp only [Option.some.injEq, Prod.mk.injEq] at h
          obtain ⟨rfl, rfl⟩ := h
          refine ⟨by omega, h2, fun i hi q' hq => ?_⟩
          by_cases hr : i = r
          · rw [hr, e] at hq; cases hq
            unfold Harm at hh; omega
          · exact h3 i (by omega) q' hq

end Go.Proofs.Ytdongghjchnpbaa
