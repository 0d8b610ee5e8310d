/-
  Victim, plainly: room; whoever is told in whatever order; who goes one by one.
-/
import Derived.Test.YtdongghjchnpbaaVcStd
import Derived.Test.YtdongghjchnpbaaRowG
namespace Go.Proofs.Ytdongghjchnpbaa
open Go.RowKit
set_option linter.unusedVariables false
set_option linter.unusedSimpArgs false

theorem leave_room {m : Mx} {row : Nat} {l : List Cd} {tier K : Nat} (hK : 1 ≤ K) (h : K ≤ (m.free row).length) : m.leave row l tier K = some [] := by
  unfold Mx.leave
  rw [if_neg (by omega)]
  have h1 := Mx.lv_of (m := m) (k := (K : Int)) (who := m.who row l tier) (room := (m.free row).length) (n := 0) (Nat.zero_le _) (by simp [Mx.sumC]; omega) (fun i hi => absurd hi (Nat.not_lt_zero _))
  simpa using h1

theorem leave_some {m : Mx} {row : Nat} {l : List Cd} {tier K : Nat} {q : List Cd} (h : m.leave row l tier K = some q) : ∃ n, n ≤ (m.who row l tier).length ∧ q = (m.who row l tier).take n ∧ K ≤ (m.free row).length + m.sumC q ∧ ∀ i, i < n → (m.free row).length + m.sumC (q.take i) < K := by
  unfold Mx.leave at h
  split at h
  · cases h
  · obtain ⟨n, h1, h2, h3, h4⟩ := Mx.lv_some h
    refine ⟨n, h1, h2, by rw [h2]; omega, fun i hi => ?_⟩
    have := h4 i hi
    rw [h2, List.take_take, Nat.min_eq_left (by omega)]
    omega

theorem leave_nil_room {m : Mx} {row : Nat} {l : List Cd} {tier K : Nat} (h : m.leave row l tier K = some []) : K ≤ (m.free row).length := by
  obtain ⟨n, _, _, h3, _⟩ := leave_some h
  simpa [Mx.sumC] using h3

def roomTo (m : Mx) (K k : Nat) : Bool := (List.range k).any fun i => decide (K ≤ (m.free i).length)
theorem roomTo_succ (m : Mx) (K k : Nat) : roomTo m K (k + 1) = (roomTo m K k || decide (K ≤ (m.free k).length)) := by
  unfold roomTo; rw [List.range_succ, List.any_append]; simp
theorem roomTo_true {m : Mx} {K k : Nat} (h : roomTo m K k = true) : ∃ i, i < k ∧ K ≤ (m.free i).length := by
  unfold roomTo at h
  rw [List.any_eq_true] at h
  obtain ⟨i, h1, h2⟩ := h
  exact ⟨i, List.mem_range.1 h1, by simpa using h2⟩

def someTo (f : Nat → Option (List Cd)) (k : Nat) : Bool := (List.range k).any fun i => (f i).isSome
theorem someTo_succ (f : Nat → Option (List Cd)) (k : Nat) : someTo f (k + 1) = (someTo f k || (f k).isSome) := by
  unfold someTo; rw [List.range_succ, List.any_append]; simp
theorem someTo_best (f : Nat → Option (List Cd)) (k : Nat) : someTo f k = (best15 f k).isSome := by
  cases h : best15 f k with
  | none =>
    have := best15_none h
    unfold someTo
    rw [Option.isSome_none, List.any_eq_false]
    intro i hi
    rw [this i (List.mem_range.1 hi)]; simp
  | some p =>
    obtain ⟨b, q⟩ := p
    obtain ⟨h1, h2, _⟩ := best15_some h
    unfold someTo
    rw [Option.isSome_some, List.any_eq_true]
    exact ⟨b, List.mem_range.2 h1, by rw [h2]; rfl⟩

theorem best15_eq {f : Nat → Option (List Cd)} {r i b : Nat} {q p : List Cd} (hi : i < r) (hq : f i = some q) (hb : best15 f r = some (b, p)) : p.length ≤ q.length := (best15_some hb).2.2 i hi q hq

/-! The order in which they are told. -/
theorem find_rev {l : List Cd} (h : (l.map Prod.fst).Nodup) (j : Nat) : firstC l.reverse j = firstC l j := by
  unfold firstC
  cases e : l.find? (fun c => c.1 == j) with
  | none =>
    rw [List.find?_eq_none] at e ⊢
    exact fun x hx => e x (List.mem_reverse.1 hx)
  | some c =>
    have h1 := List.mem_of_find?_eq_some e
    have h2 := List.find?_some e
    cases e2 : l.reverse.find? (fun c => c.1 == j) with
    | none =>
      rw [List.find?_eq_none] at e2
      exact absurd h2 (e2 c (List.mem_reverse.2 h1))
    | some d =>
      have h3 := List.mem_reverse.1 (List.mem_of_find?_eq_some e2)
      have h4 := List.find?_some e2
      have h5 : d.1 = c.1 := by simp only [beq_iff_eq] at h2 h4; omega
      obtain ⟨i, hi, rfl⟩ := List.mem_iff_getElem.1 h1
      obtain ⟨k, hk, rfl⟩ := List.mem_iff_getElem.1 h3
      have : k = i := by
        refine (List.getElem_inj (h₀ := by simpa using hk) (h₁ := by simpa using hi) h).1 ?_
        simpa using h5
      subst this
      rfl
theorem leave_rev {m : Mx} {l : List Cd} (h : (l.map Prod.fst).Nodup) (row tier : Nat) (k : Int) : m.leave row l.reverse tier k = m.leave row l tier k := by
  have h1 : lowC l.reverse tier = lowC l tier := by
    funext j
    unfold lowC
    rw [find_rev h]
  unfold Mx.leave Mx.who Mx.lows
  rw [h1]

theorem cands_nodup (S : Nat → St15) (k : Nat) : ((cands S k).map Prod.fst).Nodup := by
  induction k with
  | zero => simp [cands]
  | succ k ih =>
    rw [cands_succ, List.map_append]
    refine List.nodup_append.2 ⟨ih, by split <;> simp, fun x hx y hy => ?_⟩
    obtain ⟨c, hc, rfl⟩ := List.mem_map.1 hx
    obtain ⟨i, hi, _, rfl⟩ := cands_mem.1 hc
    split at hy
    · simp at hy
    · simp at hy; subst hy
      simp only; omega

/-! Who goes. -/
theorem who_mem {m : Mx} {row : Nat} {l : List Cd} {tier : Nat} {x : Cd} (h : x ∈ m.who row l tier) : x ∈ l ∧ x.1 ∈ m.row row ∧ x.2 < tier := by
  have h1 : x ∈ m.lows row l tier := (sortC_perm _).mem_iff.1 h
  unfold Mx.lows at h1
  obtain ⟨j, h2, h3⟩ := List.mem_filterMap.1 h1
  have := lowC_some h3
  exact ⟨this.1, by rw [this.2.1]; exact h2, this.2.2⟩

theorem low_sub (l : List Cd) (tier : Nat) : ∀ J : List Nat, ((J.filterMap (lowC l tier)).map Prod.fst).Sublist J
  | [] => List.Sublist.slnil
  | j :: J => by
    cases e : lowC l tier j with
    | none => rw [List.filterMap_cons_none e]; exact (low_sub l tier J).cons _
    | some c =>
      rw [List.filterMap_cons_some e, List.map_cons, (lowC_some e).2.1]
      exact (low_sub l tier J).cons_cons _

theorem who_nodup (m : Mx) (row : Nat) (l : List Cd) (tier : Nat) : ((m.who row l tier).map Prod.fst).Nodup := by
  have h1 : ((m.lows row l tier).map Prod.fst).Nodup := List.Nodup.sublist (low_sub l tier _) (m.row_nodup row)
  exact ((sortC_perm (m.lows row l tier)).map Prod.fst).symm.nodup h1

theorem or_len {α : Type} (a b : α → Bool) : ∀ l : List α, (∀ x ∈ l, a x = true → b x = false) → (l.filter fun x => a x || b x).length = (l.filter a).length + (l.filter b).length
  | [], _ => rfl
  | x :: l, h => by
    have ih := or_len a b l fun y hy => h y (List.mem_cons_of_mem _ hy)
    have hx := h x List.mem_cons_self
    rw [List.filter_cons, List.filter_cons, List.filter_cons]
    cases ha : a x <;> cases hb : b x <;> simp [ha, hb, ih] at hx ⊢ <;> omega

theorem free_gone {m : Mx} {row j : Nat} (hn : m.n ≤ 16) (hj : j ≠ 0) : ((m.stand row (m.own row j) 0).free row).length = (m.free row).length + m.upN row j := by
  have e1 : (m.stand row (m.own row j) 0).free row = (List.range m.n).filter fun k => (m.c (16 * row + k) == 0 && !m.d k) || (m.c (16 * row + k) == j && !m.d k) := by
    unfold Mx.free Mx.at
    rw [Mx.stand_n, Mx.stand_d]
    apply List.filter_congr
    intro k hk
    rw [List.mem_range] at hk
    rw [Mx.stand_cell _ _ _ _ _ _ (own_lt hn) (by omega)]
    by_cases h : m.c (16 * row + k) = j
    · rw [if_pos ⟨rfl, own_mem.2 ⟨hk, h⟩⟩]
      have : ¬ m.c (16 * row + k) = 0 := by rw [h]; exact hj
      simp [h, hj]
    · rw [if_neg (fun hh => h (own_mem.1 hh.2).2)]
      simp [h]
  rw [e1, or_len]
  · congr 1
    unfold Mx.upN Mx.own Mx.at
    rw [List.filter_filter]
    congr 1
    apply List.filter_congr
    intro k _
    rw [Bool.and_comm]
  · intro k _ h1
    simp only [Bool.and_eq_true, beq_iff_eq] at h1
    have : ¬ m.c (16 * row + k) = j := by rw [h1.1]; exact fun e => hj e.symm
    simp [this]

/-- Some of a row's jobs are gone. -/
structure Rid (m m' : Mx) (row : Nat) (q : List Cd) : Prop where
  mr : m'.r = m.r
  mn : m'.n = m.n
  md : m'.d = m.d
  one : One m'
  own : ∀ i j, j ≠ 0 → j ∉ q.map Prod.fst → m'.own i j = m.own i j
  fr : (m'.free row).length = (m.free row).length + m.sumC q

theorem Rid.nil {m : Mx} (ho : One m) (row : Nat) : Rid m m row [] := ⟨rfl, rfl, rfl, ho, fun _ _ _ _ => rfl, by simp [Mx.sumC]⟩

theorem Rid.where_ {m m' : Mx} {row j : Nat} {q : List Cd} (h : Rid m m' row q) (ho : One m) (hj : j ∈ m.row row) (hr : row < m.r) (hq : j ∉ q.map Prod.fst) : m'.where j = some row := by
  have h1 := row_own.1 hj
  exact (where_iff h.one).2 ⟨h1.1, by rw [h.mr]; exact hr, by rw [h.own row j h1.1 hq]; exact h1.2⟩

theorem Rid.step {m m' : Mx} {row : Nat} {q : List Cd} {c : Cd} (h : Rid m m' row q) (ho : One m) (hn : m.n ≤ 16) (hj : c.1 ∈ m.row row) (hr : row < m.r) (hq : c.1 ∉ q.map Prod.fst) : Rid m (m'.stand row (m'.own row c.1) 0) row (q ++ [c]) := by
  have h1 := row_own.1 hj
  have hn' : m'.n ≤ 16 := by rw [h.mn]; exact hn
  refine ⟨(Mx.stand_r _ _ _ _).trans h.mr, (Mx.stand_n _ _ _ _).trans h.mn, (Mx.stand_d _ _ _ _).trans h.md, ?_, ?_, ?_⟩
  · intro j r1 r2 hj0 hr1 hr2 h3 h4
    rw [Mx.stand_r] at hr1 hr2
    have key : ∀ i, (m'.stand row (m'.own row c.1) 0).own i j ≠ [] → m'.own i j ≠ [] := by
      intro i hi
      by_cases e : j = c.1 ∧ i = row
      · rw [e.1, e.2, own_gone_self hn' h1.1] at hi; exact absurd rfl hi
      · rw [own_gone hn' hj0 (by by_cases e1 : j = c.1 <;> by_cases e2 : i = row <;> simp_all)] at hi; exact hi
    exact h.one j r1 r2 hj0 hr1 hr2 (key r1 h3) (key r2 h4)
  · intro i j hj0 hjq
    simp only [List.map_append, List.map_cons, List.map_nil, List.mem_append, List.mem_singleton, not_or] at hjq
    rw [own_gone hn' hj0 (.inl hjq.2), h.own i j hj0 hjq.1]
  · rw [free_gone hn' h1.1, h.fr, Mx.sumC_snoc]
    have hc : m.cnt c.1 = m.upN row c.1 := by unfold Mx.cnt; rw [(One.row_where ho hr hj).1]
    have hd : m'.upN row c.1 = m.upN row c.1 := by
      unfold Mx.upN
      rw [h.own row c.1 h1.1 hq, h.md]
    rw [hc, hd]; omega

end Go.Proofs.Ytdongghjchnpbaa
