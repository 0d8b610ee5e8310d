/-
  Going round the rows: plainly.
-/
import Derived.Test.YtlobnipeplnodaaRowB
namespace Go.Proofs.Ytlobnipeplnodaa
open Go.RowKit
set_option linter.unusedVariables false

/-- Has a row anybody? -/
def Mx.busy (m : Mx) (i : Nat) : Bool := !(m.row i).isEmpty
/-- Who has, from a row on, going round. -/
def Mx.cyc (m : Mx) (s : Nat) : List Nat := ((List.range m.r).map fun i => (s + i) % m.r).filter m.busy

theorem busy_nil {m : Mx} {i : Nat} : m.row i = [] ↔ m.busy i = false := by
  unfold Mx.busy
  cases m.row i <;> simp

theorem cyc_parts (m : Mx) (s : Nat) (h : 1 ≤ m.r) : ∃ N : List Nat, ((List.range m.r).map fun i => (s + i) % m.r) = (s % m.r) :: N ∧ ((List.range m.r).map fun i => (s + 1 + i) % m.r) = N ++ [s % m.r] := by
  obtain ⟨q, hq⟩ : ∃ q, m.r = q + 1 := ⟨m.r - 1, by omega⟩
  refine ⟨(List.range q).map fun i => (s + (i + 1)) % m.r, ?_, ?_⟩
  · rw [hq, List.range_succ_eq_map]
    simp
  · rw [hq, List.range_succ, List.map_append, List.map_singleton]
    congr 1
    · refine List.map_congr_left fun i _ => ?_
      rw [show s + 1 + i = s + (i + 1) by omega]
    · rw [show s + 1 + q = s + (q + 1) by omega, Nat.add_mod_right]

theorem cyc_cons {m : Mx} {s : Nat} (h : 1 ≤ m.r) (hb : m.busy (s % m.r) = true) : ∃ T, m.cyc s = (s % m.r) :: T ∧ m.cyc (s + 1) = T ++ [s % m.r] := by
  obtain ⟨N, h1, h2⟩ := cyc_parts m s h
  refine ⟨N.filter m.busy, ?_, ?_⟩
  · unfold Mx.cyc
    rw [h1, List.filter_cons_of_pos hb]
  · unfold Mx.cyc
    rw [h2, List.filter_append, List.filter_cons_of_pos hb, List.filter_nil]

theorem cyc_skip {m : Mx} {s : Nat} (h : 1 ≤ m.r) (hb : m.busy (s % m.r) = false) : m.cyc (s + 1) = m.cyc s := by
  obtain ⟨N, h1, h2⟩ := cyc_parts m s h
  unfold Mx.cyc
  rw [h1, h2, List.filter_append, List.filter_cons_of_neg (by simp [hb]), List.filter_cons_of_neg (by simp [hb]), List.filter_nil, List.append_nil]

theorem cyc_mod (m : Mx) (s : Nat) : m.cyc (s % m.r) = m.cyc s := by
  unfold Mx.cyc
  congr 1
  refine List.map_congr_left fun i _ => ?_
  rw [Nat.mod_add_mod]

theorem seek_some {m : Mx} {s f : Nat} (h : 1 ≤ m.r) : ∀ (k i : Nat), m.seek s i k = some f → m.busy f = true ∧ f < m.r ∧ m.cyc f = m.cyc (s + i)
  | 0, i, hs => by cases hs
  | k + 1, i, hs => by
    rw [Mx.seek_succ] at hs
    by_cases hb : m.row ((s + i) % m.r) = []
    · rw [if_pos hb] at hs
      obtain ⟨h1, h2, h3⟩ := seek_some h k (i + 1) hs
      exact ⟨h1, h2, h3.trans (by rw [show s + (i + 1) = s + i + 1 by omega]; exact cyc_skip h (busy_nil.1 hb))⟩
    · rw [if_neg hb] at hs
      cases hs
      refine ⟨?_, Nat.mod_lt _ h, cyc_mod _ _⟩
      cases hc : m.busy ((s + i) % m.r)
      · exact absurd (busy_nil.2 hc) hb
      · rfl

theorem seek_none {m : Mx} {s : Nat} : ∀ (k i : Nat), m.seek s i k = none → ∀ t, t < k → m.busy ((s + i + t) % m.r) = false
  | 0, i, hs, t, ht => by omega
  | k + 1, i, hs, t, ht => by
    rw [Mx.seek_succ] at hs
    by_cases hb : m.row ((s + i) % m.r) = []
    · rw [if_pos hb] at hs
      by_cases e : t = 0
      · subst e; exact busy_nil.1 hb
      · have := seek_none k (i + 1) hs (t - 1) (by omega)
        rw [show s + (i + 1) + (t - 1) = s + i + t by omega] at this
        exact this
    · rw [if_neg hb] at hs; cases hs

theorem cyc_of_none {m : Mx} {s : Nat} (h : m.seek s 0 m.r = none) : m.cyc s = [] := by
  unfold Mx.cyc
  rw [List.filter_eq_nil_iff]
  intro x hx
  obtain ⟨i, hi, rfl⟩ := List.mem_map.1 hx
  have := seek_none m.r 0 h i (List.mem_range.1 hi)
  rw [Nat.add_zero] at this
  simp [this]

theorem cyc_len (m : Mx) (h : 1 ≤ m.r) : ∀ s, (m.cyc s).length = ((List.range m.r).filter m.busy).length
  | 0 => by
    unfold Mx.cyc
    congr 2
    conv => rhs; rw [← List.map_id (List.range m.r)]
    refine List.map_congr_left fun i hi => ?_
    rw [Nat.zero_add, Nat.mod_eq_of_lt (List.mem_range.1 hi)]
    rfl
  | s + 1 => by
    rw [← cyc_len m h s]
    cases hb : m.busy (s % m.r)
    · rw [cyc_skip h hb]
    · obtain ⟨T, h1, h2⟩ := cyc_cons h hb
      rw [h1, h2]
      simp

theorem cyc_nodup (m : Mx) (h : 1 ≤ m.r) : ∀ s, (m.cyc s).Nodup
  | 0 => by
    unfold Mx.cyc
    refine List.Nodup.sublist List.filter_sublist ?_
    have : ((List.range m.r).map fun i => (0 + i) % m.r) = List.range m.r := by
      conv => rhs; rw [← List.map_id (List.range m.r)]
      refine List.map_congr_left fun i hi => ?_
      rw [Nat.zero_add, Nat.mod_eq_of_lt (List.mem_range.1 hi)]
      rfl
    rw [this]
    exact List.nodup_range
  | s + 1 => by
    have ih := cyc_nodup m h s
    cases hb : m.busy (s % m.r)
    · rw [cyc_skip h hb]; exact ih
    · obtain ⟨T, h1, h2⟩ := cyc_cons h hb
      rw [h1, List.nodup_cons] at ih
      rw [h2, List.nodup_append]
      refine ⟨ih.2, by simp, fun a ha b hb2 => ?_⟩
      simp at hb2
      subst hb2
      exact fun e => ih.1 (e ▸ ha)

/-- A step on. -/
theorem cyc_step {m : Mx} {row i : Nat} {C : List Nat} (h : 1 ≤ m.r) (hr : row < m.r) (hi : i < C.length) (hc : m.cyc row = C.drop i ++ C.take i) (hn : C.Nodup) (hb : m.busy row = true) :
    C[i]? = some row ∧ row ∉ C.take i ∧ ∃ x, m.seek (row + 1) 0 m.r = some x ∧ x < m.r ∧ m.busy x = true ∧ m.cyc x = C.drop (i + 1) ++ C.take (i + 1) := by
  have hmod : row % m.r = row := Nat.mod_eq_of_lt hr
  obtain ⟨T, h1, h2⟩ := cyc_cons (s := row) h (by rw [hmod]; exact hb)
  rw [hmod] at h1 h2
  have hd : C.drop i = C[i] :: C.drop (i + 1) := List.drop_eq_getElem_cons hi
  rw [h1, hd, List.cons_append, List.cons.injEq] at hc
  obtain ⟨e1, e2⟩ := hc
  have hget : C[i]? = some row := by rw [List.getElem?_eq_getElem hi, ← e1]
  have htake : C.take (i + 1) = C.take i ++ [row] := take_snoc' _ _ _ hget
  refine ⟨hget, fun hm => ?_, ?_⟩
  · have h3 : (C.take (i + 1)).Nodup := List.Nodup.sublist (List.take_sublist _ _) hn
    rw [htake, List.nodup_append] at h3
    exact h3.2.2 row hm row (by simp) rfl
  · cases hs : m.seek (row + 1) 0 m.r with
    | none =>
      have := cyc_of_none hs
      rw [h2] at this
      simp at this
    | some x =>
      obtain ⟨a, b, c⟩ := seek_some h _ _ hs
      refine ⟨x, rfl, b, a, ?_⟩
      rw [c, Nat.add_zero, h2, e2, htake, List.append_assoc]

theorem cyc_head {m : Mx} {row : Nat} (h : 1 ≤ m.r) (hr : row < m.r) (hb : m.busy row = true) : ∃ T, m.cyc row = row :: T := by
  have hmod : row % m.r = row := Nat.mod_eq_of_lt hr
  obtain ⟨T, h1, _⟩ := cyc_cons (s := row) h (by rw [hmod]; exact hb)
  rw [hmod] at h1
  exact ⟨T, h1⟩

end Go.Proofs.Ytlobnipeplnodaa
