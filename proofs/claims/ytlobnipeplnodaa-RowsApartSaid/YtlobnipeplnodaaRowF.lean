/-
  Who fills a row, plainly: nobody meets another one, and who is left out meets somebody.
-/
import Derived.Test.YtlobnipeplnodaaRowJb
import Derived.Test.YtlobnipeplnodaaRowB
namespace Go.Proofs.Ytlobnipeplnodaa
open Go.RowKit Go.Shelf
set_option linter.unusedVariables false

theorem jobs_mem (f : Nat → Nat) (l : List Nat) : ∀ (a : List Nat) (j : Nat), j ∈ l.foldl (fun a k => if a.contains (f k) then a else a ++ [f k]) a ↔ j ∈ a ∨ ∃ k ∈ l, f k = j := by
  induction l with
  | nil => intro a j; simp
  | cons k l ih =>
    intro a j
    rw [List.foldl_cons, ih]
    by_cases h : a.contains (f k) = true
    · rw [if_pos h]
      rw [List.contains_iff_mem] at h
      constructor
      · rintro (h1 | ⟨x, hx, rfl⟩)
        · exact .inl h1
        · exact .inr ⟨x, by simp [hx], rfl⟩
      · rintro (h1 | ⟨x, hx, rfl⟩)
        · exact .inl h1
        · rcases List.mem_cons.1 hx with rfl | hx
          · exact .inl h
          · exact .inr ⟨x, hx, rfl⟩
    · rw [if_neg h]
      constructor
      · rintro (h1 | ⟨x, hx, rfl⟩)
        · rcases List.mem_append.1 h1 with h1 | h1
          · exact .inl h1
          · rw [List.mem_singleton] at h1; exact .inr ⟨k, by simp, h1.symm⟩
        · exact .inr ⟨x, by simp [hx], rfl⟩
      · rintro (h1 | ⟨x, hx, rfl⟩)
        · exact .inl (List.mem_append.2 (.inl h1))
        · rcases List.mem_cons.1 hx with rfl | hx
          · exact .inl (by simp)
          · exact .inr ⟨x, hx, rfl⟩

theorem jobs_nodup (f : Nat → Nat) (l : List Nat) : ∀ a : List Nat, a.Nodup → (l.foldl (fun a k => if a.contains (f k) then a else a ++ [f k]) a).Nodup := by
  induction l with
  | nil => exact fun a h => h
  | cons k l ih =>
    intro a h
    rw [List.foldl_cons]
    refine ih _ ?_
    by_cases hc : a.contains (f k) = true
    · rw [if_pos hc]; exact h
    · rw [if_neg hc]
      rw [List.contains_iff_mem] at hc
      exact List.nodup_append.2 ⟨h, by simp, fun x hx y hy => by rw [List.mem_singleton] at hy; subst hy; exact fun e => hc (e ▸ hx)⟩

theorem Mx.row_nodup (m : Mx) (i : Nat) : (m.row i).Nodup := jobs_nodup _ _ [] List.nodup_nil
theorem Mx.row_mem {m : Mx} {i j : Nat} : j ∈ m.row i ↔ ∃ k, k < m.n ∧ m.c (16 * i + k) ≠ 0 ∧ m.c (16 * i + k) = j := by
  refine (jobs_mem (fun k => m.c (16 * i + k)) (m.at fun k => m.c (16 * i + k) != 0) [] j).trans ?_
  constructor
  · rintro (h | ⟨k, hk, rfl⟩)
    · cases h
    · have := Mx.at_mem.1 hk
      exact ⟨k, this.1, by simpa using this.2, rfl⟩
  · rintro ⟨k, h1, h2, rfl⟩
    exact .inr ⟨k, Mx.at_mem.2 ⟨h1, by simpa using h2⟩, rfl⟩

/-- The nodes that Of tells of a job. -/
def Mx.nodes (m : Mx) (j : Nat) : List Nat := match m.where j with
  | none => []
  | some i => m.own i j

theorem Mx.nodes_of {m : Mx} {j i : Nat} (h : m.where j = some i) : m.nodes j = m.own i j := by unfold Mx.nodes; rw [h]

theorem Built.row_where {ws : List Nat} {c : Nat} {m : Mx} (h : Built ws c m) {i j : Nat} (hi : i < m.r) (hj : j ∈ m.row i) : m.where j = some i ∧ j ≠ 0 := by
  obtain ⟨k, h1, h2, h3⟩ := Mx.row_mem.1 hj
  have hj0 : j ≠ 0 := by rw [← h3]; exact h2
  have hown : m.own i j ≠ [] := fun e => by
    have : k ∈ m.own i j := own_mem.2 ⟨h1, h3⟩
    rw [e] at this; cases this
  refine ⟨?_, hj0⟩
  unfold Mx.where
  rw [if_neg hj0]
  refine Mx.find_of _ _ (Nat.zero_le _) (by omega) hown (fun i' _ hi' => ?_)
  apply Classical.byContradiction
  intro hne
  have := h.one j i' i hj0 (by omega) hi hne hown
  omega

theorem Mx.own_nodup (m : Mx) (i j : Nat) : (m.own i j).Nodup := List.Nodup.sublist List.filter_sublist List.nodup_range

/-- Behind some jobs of the other rows. -/
structure FillInv (m : Mx) (k : Nat) (st : (Nat → Nat) × List Nat) (done : List Nat) : Prop where
  on : ∀ x, x < m.n → (st.1 x ≠ 0 ↔ x ∈ (m.row k ++ st.2).flatMap m.nodes)
  nd : ((m.row k ++ st.2).flatMap m.nodes).Nodup
  out : ∀ j ∈ done, j ∈ st.2 ∨ ∃ x ∈ m.nodes j, x < m.n ∧ st.1 x ≠ 0
  all : ∀ j ∈ st.2, j ∈ done

theorem FillInv.start {ws : List Nat} {c : Nat} {m : Mx} (h : Built ws c m) {k : Nat} (hk : k < m.r) : FillInv m k (m.line k, []) [] := by
  have hn : ∀ j ∈ m.row k, m.nodes j = m.own k j := fun j hj => Mx.nodes_of (h.row_where hk hj).1
  refine ⟨fun x hx => ?_, ?_, by simp, by simp⟩
  · simp only [List.append_nil, List.mem_flatMap, Mx.line]
    constructor
    · intro h0
      have hj : m.c (16 * k + x) ∈ m.row k := Mx.row_mem.2 ⟨x, hx, h0, rfl⟩
      exact ⟨_, hj, by rw [hn _ hj]; exact own_mem.2 ⟨hx, rfl⟩⟩
    · rintro ⟨j, hj, hxj⟩
      rw [hn _ hj] at hxj
      rw [(own_mem.1 hxj).2]
      exact (h.row_where hk hj).2
  · simp only [List.append_nil]
    have hrn := m.row_nodup k
    generalize m.row k = l at hn hrn
    induction l with
    | nil => simp
    | cons j l ih =>
      rw [List.flatMap_cons]
      rw [List.nodup_cons] at hrn
      refine List.nodup_append.2 ⟨by rw [hn j (by simp)]; exact m.own_nodup _ _, ih (fun j' hj' => hn j' (by simp [hj'])) hrn.2, ?_⟩
      intro x hx y hy
      rw [hn j (by simp)] at hx
      obtain ⟨j', hj', hy⟩ := List.mem_flatMap.1 hy
      rw [hn j' (by simp [hj'])] at hy
      rintro rfl
      have e1 := (own_mem.1 hx).2
      have e2 := (own_mem.1 hy).2
      exact hrn.1 (by rw [← e1, e2]; exact hj')

theorem FillInv.job {m : Mx} {k : Nat} {st : (Nat → Nat) × List Nat} {done : List Nat} (h : FillInv m k st done) {other j : Nat} (hw : m.where j = some other) (hj : j ≠ 0) : FillInv m k (fillJob m other st j) (done ++ [j]) := by
  have hn := Mx.nodes_of hw
  unfold fillJob
  by_cases hall : (m.own other j).all (fun n => st.1 n == 0) = true
  · rw [if_pos hall]
    rw [List.all_eq_true] at hall
    have hz : ∀ x ∈ m.own other j, st.1 x = 0 := fun x hx => by simpa using hall x hx
    refine ⟨fun x hx => ?_, ?_, ?_, ?_⟩
    · show over st.1 (m.own other j) j x ≠ 0 ↔ _
      rw [over_at]
      rw [← List.append_assoc, List.flatMap_append, List.mem_append, ← h.on x hx, List.flatMap_cons, List.flatMap_nil, List.append_nil, hn]
      by_cases hm : x ∈ m.own other j
      · rw [if_pos hm]; exact ⟨fun _ => .inr hm, fun _ => hj⟩
      · rw [if_neg hm]; exact ⟨fun a => .inl a, fun a => a.resolve_right hm⟩
    · show ((m.row k ++ (st.2 ++ [j])).flatMap m.nodes).Nodup
      rw [← List.append_assoc, List.flatMap_append]
      refine List.nodup_append.2 ⟨h.nd, by rw [List.flatMap_cons, List.flatMap_nil, List.append_nil, hn]; exact m.own_nodup _ _, ?_⟩
      intro x hx y hy
      rw [List.flatMap_cons, List.flatMap_nil, List.append_nil, hn] at hy
      rintro rfl
      exact ((h.on x (own_mem.1 hy).1).2 hx) (hz x hy)
    · intro j' hj'
      rcases List.mem_append.1 hj' with hj' | hj'
      · rcases h.out j' hj' with a | ⟨x, hx, hxn, a⟩
        · exact .inl (List.mem_append.2 (.inl a))
        · refine .inr ⟨x, hx, hxn, ?_⟩
          show over st.1 (m.own other j) j x ≠ 0
          rw [over_at]
          split
          · exact hj
          · exact a
      · rw [List.mem_singleton] at hj'
        subst hj'
        exact .inl (by simp)
    · intro j' hj'
      rcases List.mem_append.1 hj' with a | a
      · exact List.mem_append.2 (.inl (h.all j' a))
      · exact List.mem_append.2 (.inr a)
  · rw [if_neg hall]
    refine ⟨h.on, h.nd, fun j' hj' => ?_, fun j' hj' => List.mem_append.2 (.inl (h.all j' hj'))⟩
    rcases List.mem_append.1 hj' with hj' | hj'
    · exact h.out j' hj'
    · rw [List.mem_singleton] at hj'
      subst hj'
      rw [List.all_eq_true] at hall
      obtain ⟨x, hx⟩ := Classical.not_forall.1 hall
      obtain ⟨hx1, hx2⟩ := Classical.not_imp.1 hx
      exact .inr ⟨x, by rw [hn]; exact hx1, (own_mem.1 hx1).1, by simpa using hx2⟩

theorem FillInv.jobs {m : Mx} {k other : Nat} : ∀ (l : List Nat) {st : (Nat → Nat) × List Nat} {done : List Nat}, FillInv m k st done → (∀ j ∈ l, m.where j = some other ∧ j ≠ 0) → FillInv m k (l.foldl (fillJob m other) st) (done ++ l)
  | [], st, done, h, _ => by rw [List.append_nil]; exact h
  | j :: l, st, done, h, hl => by
    rw [List.foldl_cons]
    have := FillInv.jobs l (h.job (hl j (by simp)).1 (hl j (by simp)).2) (fun j' hj' => hl j' (by simp [hj']))
    rw [List.append_assoc] at this
    exact this

theorem FillInv.rows {ws : List Nat} {c : Nat} {m : Mx} (h : Built ws c m) {k : Nat} (hk : k < m.r) : ∀ i, i ≤ m.r → ∃ done, FillInv m k ((List.range i).foldl (fillRow m k) (m.line k, [])) done ∧ (∀ o, o < i → o ≠ k → ∀ j ∈ m.row o, j ∈ done) ∧ ∀ j ∈ done, ∃ o, o < i ∧ j ∈ m.row o
  | 0, _ => ⟨[], FillInv.start h hk, fun o ho => by omega, by simp⟩
  | i + 1, hi => by
    obtain ⟨done, h1, h2, h3⟩ := FillInv.rows h hk i (by omega)
    rw [foldl_range_succ]
    unfold fillRow
    by_cases e : i = k
    · rw [if_pos e]
      exact ⟨done, h1, fun o ho hok => h2 o (by omega) hok, fun j hj => let ⟨o, a, b⟩ := h3 j hj; ⟨o, by omega, b⟩⟩
    · rw [if_neg e]
      refine ⟨done ++ m.row i, FillInv.jobs (m.row i) h1 (fun j hj => h.row_where (by omega) hj), fun o ho hok j hj => ?_, fun j hj => ?_⟩
      · by_cases e2 : o = i
        · subst e2; exact List.mem_append.2 (.inr hj)
        · exact List.mem_append.2 (.inl (h2 o (by omega) hok j hj))
      · rcases List.mem_append.1 hj with a | a
        · obtain ⟨o, b, c⟩ := h3 j a; exact ⟨o, by omega, c⟩
        · exact ⟨i, by omega, a⟩

/-- Who goes with row k. -/
def Mx.goers (m : Mx) (k : Nat) : List Nat := m.row k ++ m.fill k

theorem Mx.jobs_mem {m : Mx} {j : Nat} : j ∈ m.jobs ↔ ∃ i, i < m.r ∧ j ∈ m.row i := by
  unfold Mx.jobs rising Mx.upTo
  rw [List.mem_mergeSort, List.mem_flatMap]
  simp only [List.mem_range]

theorem goers_nodup {ws : List Nat} {c : Nat} {m : Mx} (h : Built ws c m) {k : Nat} (hk : k < m.r) : ((m.goers k).flatMap m.nodes).Nodup := by
  obtain ⟨done, h1, _⟩ := FillInv.rows h hk m.r (Nat.le_refl _)
  exact h1.nd
theorem goers_where {ws : List Nat} {c : Nat} {m : Mx} (h : Built ws c m) {k : Nat} (hk : k < m.r) : ∀ j ∈ m.goers k, ∃ i, m.where j = some i := by
  obtain ⟨done, h1, h2, h3⟩ := FillInv.rows h hk m.r (Nat.le_refl _)
  intro j hj
  rcases List.mem_append.1 hj with a | a
  · exact ⟨k, (h.row_where hk a).1⟩
  · obtain ⟨o, ho, hjo⟩ := h3 j (h1.all j a)
    exact ⟨o, (h.row_where ho hjo).1⟩
theorem goers_out {ws : List Nat} {c : Nat} {m : Mx} (h : Built ws c m) {k : Nat} (hk : k < m.r) : ∀ j ∈ m.jobs, j ∈ m.goers k ∨ ∃ x ∈ m.nodes j, x ∈ (m.goers k).flatMap m.nodes := by
  obtain ⟨done, h1, h2, h3⟩ := FillInv.rows h hk m.r (Nat.le_refl _)
  intro j hj
  obtain ⟨i, hi, hji⟩ := Mx.jobs_mem.1 hj
  by_cases e : i = k
  · subst e; exact .inl (List.mem_append.2 (.inl hji))
  · rcases h1.out j (h2 i hi e j hji) with a | ⟨x, hx, hxn, a⟩
    · exact .inl (List.mem_append.2 (.inr a))
    · exact .inr ⟨x, hx, (h1.on x hxn).1 a⟩
theorem jobs_where {ws : List Nat} {c : Nat} {m : Mx} (h : Built ws c m) : ∀ j ∈ m.jobs, ∃ i, m.where j = some i := fun j hj => by
  obtain ⟨i, hi, hji⟩ := Mx.jobs_mem.1 hj
  exact ⟨i, (h.row_where hi hji).1⟩
theorem nodes_lt {m : Mx} {j x : Nat} (hx : x ∈ m.nodes j) : x < m.n := by
  unfold Mx.nodes at hx
  split at hx
  · cases hx
  · exact (own_mem.1 hx).1

end Go.Proofs.Ytlobnipeplnodaa
