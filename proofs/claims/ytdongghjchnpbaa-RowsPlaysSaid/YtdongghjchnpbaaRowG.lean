/-
  Who stands in a row; a job that stands in one row at most; a job's move, and what it leaves.
-/
import Derived.Test.YtdongghjchnpbaaRowJb
import Derived.Test.YtdongghjchnpbaaRowZ
namespace Go.Proofs.Ytdongghjchnpbaa
open Go.RowKit Go.Shelf
set_option linter.unusedVariables false

theorem jobs_mem (f : Nat → Nat) (l : List Nat) : ∀ (a : List Nat) (j : Nat), j ∈ l.foldl (fun a k => if a.contains (f k) then a else a ++ [f k]) a ↔ j ∈ a ∨ ∃ k ∈ l, f k = j := by
  induction l with
  | nil => intro a j; simp
  | cons k l ih =>
    intro a j
    rw [List.foldl_cons, ih]
    by_cases h : a.contains (f k) = true
    · rw [if_pos h]
      rw [List.contains_iff_mem] at h
      constructor
      · rintro (h1 | ⟨x, hx, rfl⟩)
        · exact .inl h1
        · exact .inr ⟨x, by simp [hx], rfl⟩
      · rintro (h1 | ⟨x, hx, rfl⟩)
        · exact .inl h1
        · rcases List.mem_cons.1 hx with rfl | hx
          · exact .inl h
          · exact .inr ⟨x, hx, rfl⟩
    · rw [if_neg h]
      constructor
      · rintro (h1 | ⟨x, hx, rfl⟩)
        · rcases List.mem_append.1 h1 with h1 | h1
          · exact .inl h1
          · rw [List.mem_singleton] at h1; exact .inr ⟨k, by simp, h1.symm⟩
        · exact .inr ⟨x, by simp [hx], rfl⟩
      · rintro (h1 | ⟨x, hx, rfl⟩)
        · exact .inl (List.mem_append.2 (.inl h1))
        · rcases List.mem_cons.1 hx with rfl | hx
          · exact .inl (by simp)
          · exact .inr ⟨x, hx, rfl⟩

theorem jobs_nodup (f : Nat → Nat) (l : List Nat) : ∀ a : List Nat, a.Nodup → (l.foldl (fun a k => if a.contains (f k) then a else a ++ [f k]) a).Nodup := by
  induction l with
  | nil => exact fun a h => h
  | cons k l ih =>
    intro a h
    rw [List.foldl_cons]
    refine ih _ ?_
    by_cases hc : a.contains (f k) = true
    · rw [if_pos hc]; exact h
    · rw [if_neg hc]
      rw [List.contains_iff_mem] at hc
      exact List.nodup_append.2 ⟨h, by simp, fun x hx y hy => by rw [List.mem_singleton] at hy; subst hy; exact fun e => hc (e ▸ hx)⟩

theorem Mx.row_nodup (m : Mx) (i : Nat) : (m.row i).Nodup := jobs_nodup _ _ [] List.nodup_nil
theorem Mx.row_mem {m : Mx} {i j : Nat} : j ∈ m.row i ↔ ∃ k, k < m.n ∧ m.c (16 * i + k) ≠ 0 ∧ m.c (16 * i + k) = j := by
  refine (jobs_mem (fun k => m.c (16 * i + k)) (m.at fun k => m.c (16 * i + k) != 0) [] j).trans ?_
  constructor
  · rintro (h | ⟨k, hk, rfl⟩)
    · cases h
    · have := Mx.at_mem.1 hk
      exact ⟨k, this.1, by simpa using this.2, rfl⟩
  · rintro ⟨k, h1, h2, rfl⟩
    exact .inr ⟨k, Mx.at_mem.2 ⟨h1, by simpa using h2⟩, rfl⟩

/-- The nodes that Of tells of a job. -/
def Mx.nodes (m : Mx) (j : Nat) : List Nat := match m.where j with
  | none => []
  | some i => m.own i j

theorem Mx.nodes_of {m : Mx} {j i : Nat} (h : m.where j = some i) : m.nodes j = m.own i j := by unfold Mx.nodes; rw [h]

theorem Mx.own_nodup (m : Mx) (i j : Nat) : (m.own i j).Nodup := List.Nodup.sublist List.filter_sublist List.nodup_range

theorem flat_nodup {α β : Type} (f : α → List β) : ∀ l : List α, l.Nodup → (∀ a ∈ l, (f a).Nodup) → (∀ a ∈ l, ∀ b ∈ l, ∀ y, y ∈ f a → y ∈ f b → a = b) → (l.flatMap f).Nodup
  | [], _, _, _ => by simp
  | a :: l, h1, h2, h3 => by
    rw [List.nodup_cons] at h1
    rw [List.flatMap_cons]
    refine List.nodup_append.2 ⟨h2 a (by simp), flat_nodup f l h1.2 (fun b hb => h2 b (by simp [hb])) (fun b hb c hc => h3 b (by simp [hb]) c (by simp [hc])), ?_⟩
    intro x hx y hy
    rintro rfl
    obtain ⟨b, hb, hy⟩ := List.mem_flatMap.1 hy
    have := h3 a (by simp) b (by simp [hb]) x hx hy
    subst this
    exact h1.1 hb

theorem Mx.jobs_mem {m : Mx} {j : Nat} : j ∈ m.jobs ↔ ∃ i, i < m.r ∧ j ∈ m.row i := by
  unfold Mx.jobs rising Mx.upTo
  rw [List.mem_mergeSort, List.mem_flatMap]
  simp only [List.mem_range]

/-- A job stands in one row at most. -/
def One (m : Mx) : Prop := ∀ j row row', j ≠ 0 → row < m.r → row' < m.r → m.own row j ≠ [] → m.own row' j ≠ [] → row = row'

theorem where_iff {m : Mx} (ho : One m) {j i : Nat} : m.where j = some i ↔ j ≠ 0 ∧ i < m.r ∧ m.own i j ≠ [] := by
  constructor
  · intro h
    have := Mx.where_some h
    exact ⟨this.1, this.2.1, this.2.2.1⟩
  · rintro ⟨hj, hi, hne⟩
    unfold Mx.where
    rw [if_neg hj]
    refine Mx.find_of _ _ (Nat.zero_le _) (by omega) hne (fun i' _ hi' => ?_)
    apply Classical.byContradiction
    intro h2
    have := ho j i' i hj (by omega) hi h2 hne
    omega

theorem row_own {m : Mx} {i j : Nat} : j ∈ m.row i ↔ j ≠ 0 ∧ m.own i j ≠ [] := by
  rw [Mx.row_mem]
  constructor
  · rintro ⟨k, h1, h2, h3⟩
    refine ⟨by rw [← h3]; exact h2, fun e => ?_⟩
    have : k ∈ m.own i j := own_mem.2 ⟨h1, h3⟩
    rw [e] at this; cases this
  · rintro ⟨hj, hne⟩
    obtain ⟨k, hk⟩ := List.exists_mem_of_ne_nil _ hne
    have := own_mem.1 hk
    exact ⟨k, this.1, by rw [this.2]; exact hj, this.2⟩

theorem One.row_where {m : Mx} (ho : One m) {i j : Nat} (hi : i < m.r) (hj : j ∈ m.row i) : m.where j = some i ∧ j ≠ 0 := by
  have := row_own.1 hj
  exact ⟨(where_iff ho).2 ⟨this.1, hi, this.2⟩, this.1⟩

theorem One.where_row {m : Mx} (ho : One m) {i j : Nat} (h : m.where j = some i) : j ∈ m.row i := by
  have := (where_iff ho).1 h
  exact row_own.2 ⟨this.1, this.2.2⟩

theorem one0 (r n : Nat) : One (mx0 r n) := fun j row row' hj _ _ h _ => by
  exfalso
  refine h (own_nil fun k _ => ?_)
  exact fun e => hj e.symm

theorem own_eq {m m' : Mx} {i j i' j' : Nat} (hn : m'.n = m.n) (h : ∀ k, k < m.n → ((m'.c (16 * i' + k) = j') ↔ (m.c (16 * i + k) = j))) : m'.own i' j' = m.own i j := by
  unfold Mx.own Mx.at
  rw [hn]
  apply List.filter_congr
  intro k hk
  rw [List.mem_range] at hk
  rw [Bool.eq_iff_iff]
  simpa using h k hk

/-- A job moves from a row to another one, at its nodes. -/
def Mx.mv (m : Mx) (j f t : Nat) : Mx := (m.stand f (m.own f j) 0).stand t (m.own f j) j

theorem mv_r (m : Mx) (j f t : Nat) : (m.mv j f t).r = m.r := by unfold Mx.mv; rw [Mx.stand_r, Mx.stand_r]
theorem mv_n (m : Mx) (j f t : Nat) : (m.mv j f t).n = m.n := by unfold Mx.mv; rw [Mx.stand_n, Mx.stand_n]
theorem mv_d (m : Mx) (j f t : Nat) : (m.mv j f t).d = m.d := by unfold Mx.mv; rw [Mx.stand_d, Mx.stand_d]

theorem mv_cell {m : Mx} {j f t : Nat} (hn : m.n ≤ 16) (i k : Nat) (hk : k < 16) : (m.mv j f t).c (16 * i + k) = if i = t ∧ k ∈ m.own f j then j else if i = f ∧ k ∈ m.own f j then 0 else m.c (16 * i + k) := by
  unfold Mx.mv
  rw [Mx.stand_cell _ _ _ _ _ _ (own_lt hn) hk, Mx.stand_cell _ _ _ _ _ _ (own_lt hn) hk]

/-- It may move. -/
structure CanGo (m : Mx) (j f t : Nat) : Prop where
  wh : m.where j = some f
  ne : f ≠ t
  tr : t < m.r
  fits : ∀ k ∈ m.own f j, m.c (16 * t + k) = 0

theorem CanGo.j0 {m : Mx} {j f t : Nat} (h : CanGo m j f t) : j ≠ 0 := (Mx.where_some h.wh).1
theorem CanGo.fr {m : Mx} {j f t : Nat} (h : CanGo m j f t) : f < m.r := (Mx.where_some h.wh).2.1
theorem CanGo.own {m : Mx} {j f t : Nat} (h : CanGo m j f t) : m.own f j ≠ [] := (Mx.where_some h.wh).2.2.1

theorem mv_own {m : Mx} {j f t : Nat} (hn : m.n ≤ 16) (ho : One m) (hc : CanGo m j f t) {i j' : Nat} (hi : i < m.r) (hj' : j' ≠ 0) : (m.mv j f t).own i j' = if j' = j then (if i = t then m.own f j else []) else m.own i j' := by
  by_cases e : j' = j
  · subst e
    rw [if_pos rfl]
    by_cases ei : i = t
    · subst ei
      rw [if_pos rfl]
      refine own_eq (mv_n _ _ _ _) fun k hk => ?_
      rw [mv_cell hn i k (by omega)]
      by_cases hk2 : k ∈ m.own f j'
      · rw [if_pos ⟨rfl, hk2⟩]
        exact ⟨fun _ => (own_mem.1 hk2).2, fun _ => rfl⟩
      · rw [if_neg (fun h => hk2 h.2), if_neg (fun h => hk2 h.2)]
        constructor
        · intro h
          exfalso
          have h1 : k ∈ m.own i j' := own_mem.2 ⟨hk, h⟩
          exact hc.ne (ho j' f i hj' hc.fr hi hc.own (fun e => by rw [e] at h1; cases h1))
        · intro h
          exact absurd (own_mem.2 ⟨hk, h⟩) hk2
    · rw [if_neg ei]
      refine own_nil fun k hk => ?_
      rw [mv_n] at hk
      rw [mv_cell hn i k (by omega), if_neg (fun h => ei h.1)]
      by_cases h2 : i = f ∧ k ∈ m.own f j'
      · rw [if_pos h2]; exact fun e => hj' e.symm
      · rw [if_neg h2]
        intro h
        have h1 : k ∈ m.own i j' := own_mem.2 ⟨hk, h⟩
        have : i = f := ho j' i f hj' hi hc.fr (fun e => by rw [e] at h1; cases h1) hc.own
        subst this
        exact h2 ⟨rfl, h1⟩
  · rw [if_neg e]
    refine own_eq (mv_n _ _ _ _) fun k hk => ?_
    rw [mv_cell hn i k (by omega)]
    by_cases h1 : i = t ∧ k ∈ m.own f j
    · rw [if_pos h1]
      have := hc.fits k h1.2
      rw [h1.1, this]
      exact ⟨fun h => absurd h.symm e, fun h => absurd h.symm hj'⟩
    · rw [if_neg h1]
      by_cases h2 : i = f ∧ k ∈ m.own f j
      · rw [if_pos h2, h2.1, (own_mem.1 h2.2).2]
        exact ⟨fun h => absurd h.symm hj', fun h => absurd h.symm e⟩
      · rw [if_neg h2]

theorem mv_one {m : Mx} {j f t : Nat} (hn : m.n ≤ 16) (ho : One m) (hc : CanGo m j f t) : One (m.mv j f t) := by
  intro j' i i' hj' hi hi' h h'
  rw [mv_r] at hi hi'
  rw [mv_own hn ho hc hi hj'] at h
  rw [mv_own hn ho hc hi' hj'] at h'
  by_cases e : j' = j
  · rw [if_pos e] at h h'
    by_cases e1 : i = t
    · by_cases e2 : i' = t
      · rw [e1, e2]
      · rw [if_neg e2] at h'; exact absurd rfl h'
    · rw [if_neg e1] at h; exact absurd rfl h
  · rw [if_neg e] at h h'
    exact ho j' i i' hj' hi hi' h h'

theorem mv_where {m : Mx} {j f t : Nat} (hn : m.n ≤ 16) (ho : One m) (hc : CanGo m j f t) {j' : Nat} (hj' : j' ≠ 0) : (m.mv j f t).where j' = if j' = j then some t else m.where j' := by
  apply Option.ext
  intro i
  rw [where_iff (mv_one hn ho hc), mv_r]
  by_cases e : j' = j
  · rw [if_pos e]
    constructor
    · rintro ⟨-, hi, h⟩
      rw [mv_own hn ho hc hi hj', if_pos e] at h
      by_cases e1 : i = t
      · rw [e1]
      · rw [if_neg e1] at h; exact absurd rfl h
    · intro h
      cases h
      refine ⟨hj', hc.tr, ?_⟩
      rw [mv_own hn ho hc hc.tr hj', if_pos e, if_pos rfl]
      exact hc.own
  · rw [if_neg e, where_iff ho]
    constructor
    · rintro ⟨-, hi, h⟩
      rw [mv_own hn ho hc hi hj', if_neg e] at h
      exact ⟨hj', hi, h⟩
    · rintro ⟨-, hi, h⟩
      refine ⟨hj', hi, ?_⟩
      rw [mv_own hn ho hc hi hj', if_neg e]
      exact h

theorem nodes_zero (m : Mx) : m.nodes 0 = [] := by unfold Mx.nodes Mx.where; rw [if_pos rfl]
theorem nodes_of_none {m : Mx} {j : Nat} (h : m.where j = none) : m.nodes j = [] := by unfold Mx.nodes; rw [h]

theorem mv_nodes {m : Mx} {j f t : Nat} (hn : m.n ≤ 16) (ho : One m) (hc : CanGo m j f t) (j' : Nat) : (m.mv j f t).nodes j' = m.nodes j' := by
  by_cases h0 : j' = 0
  · rw [h0, nodes_zero, nodes_zero]
  · by_cases e : j' = j
    · subst e
      rw [Mx.nodes_of hc.wh, Mx.nodes_of (i := t) (by rw [mv_where hn ho hc h0, if_pos rfl]), mv_own hn ho hc hc.tr h0, if_pos rfl, if_pos rfl]
    · cases hw : m.where j' with
      | none => rw [nodes_of_none hw, nodes_of_none (by rw [mv_where hn ho hc h0, if_neg e, hw])]
      | some i =>
        have hi := (Mx.where_some hw).2.1
        rw [Mx.nodes_of hw, Mx.nodes_of (i := i) (by rw [mv_where hn ho hc h0, if_neg e, hw]), mv_own hn ho hc hi h0, if_neg e]

theorem CanGo.mv {m : Mx} {j j' f t : Nat} (hn : m.n ≤ 16) (ho : One m) (hc : CanGo m j f t) (hc' : CanGo m j' f t) (hne : j' ≠ j) : CanGo (m.mv j f t) j' f t := by
  refine ⟨by rw [mv_where hn ho hc hc'.j0, if_neg hne]; exact hc'.wh, hc.ne, by rw [mv_r]; exact hc.tr, fun k hk => ?_⟩
  rw [mv_own hn ho hc hc.fr hc'.j0, if_neg hne] at hk
  have hk1 := own_mem.1 hk
  rw [mv_cell hn t k (by omega), if_neg, if_neg]
  · exact hc'.fits k hk
  · exact fun h => hc.ne h.1.symm
  · rintro ⟨-, h⟩
    exact hne (hk1.2.symm.trans (own_mem.1 h).2)

/-- Moves, one behind the other. -/
inductive Trace : Mx → List (Nat × Nat × Nat) → Mx → Prop
  | nil (m : Mx) : Trace m [] m
  | cons {m m' : Mx} {j f t : Nat} {l : List (Nat × Nat × Nat)} (h : CanGo m j f t) (ht : Trace (m.mv j f t) l m') : Trace m ((j, f, t) :: l) m'

theorem Trace.append {m m' m'' : Mx} {l l' : List (Nat × Nat × Nat)} (h : Trace m l m') (h' : Trace m' l' m'') : Trace m (l ++ l') m'' := by
  induction h with
  | nil => exact h'
  | cons hc _ ih => exact .cons hc (ih h')

/-- What moves leave as it was. -/
structure Kept (m m' : Mx) : Prop where
  r : m'.r = m.r
  n : m'.n = m.n
  d : m'.d = m.d
  one : One m'
  nodes : ∀ j, m'.nodes j = m.nodes j
  some : ∀ j, (m'.where j).isSome = (m.where j).isSome

theorem Trace.kept {m m' : Mx} {l : List (Nat × Nat × Nat)} (h : Trace m l m') (hn : m.n ≤ 16) (ho : One m) : Kept m m' := by
  induction h with
  | nil m => exact ⟨rfl, rfl, rfl, ho, fun _ => rfl, fun _ => rfl⟩
  | @cons m m' j f t l hc ht ih =>
    have := ih (by rw [mv_n]; exact hn) (mv_one hn ho hc)
    refine ⟨this.r.trans (mv_r _ _ _ _), this.n.trans (mv_n _ _ _ _), this.d.trans (mv_d _ _ _ _), this.one, fun j' => (this.nodes j').trans (mv_nodes hn ho hc j'), fun j' => (this.some j').trans ?_⟩
    by_cases h0 : j' = 0
    · rw [h0]; unfold Mx.where; rw [if_pos rfl, if_pos rfl]
    · rw [mv_where hn ho hc h0]
      by_cases e : j' = j
      · rw [if_pos e, e, hc.wh]; rfl
      · rw [if_neg e]

/-- Are all nodes of these jobs free in a row? -/
def Mx.goes (m : Mx) (t : Nat) (J : List Nat) : Bool := J.all fun j => (m.nodes j).all fun k => m.c (16 * t + k) == 0

theorem goes_fits {m : Mx} {t j f : Nat} {J : List Nat} (h : m.goes t J = true) (hj : j ∈ J) (hw : m.where j = some f) : ∀ k ∈ m.own f j, m.c (16 * t + k) = 0 := by
  intro k hk
  unfold Mx.goes at h
  rw [List.all_eq_true] at h
  have h1 := h j hj
  rw [Mx.nodes_of hw, List.all_eq_true] at h1
  simpa using h1 k hk

/-- All of them move. -/
def Mx.shift (m : Mx) (f t : Nat) (J : List Nat) : Mx := J.foldl (fun m j => m.mv j f t) m

theorem shift_trace {f t : Nat} : ∀ (J : List Nat) {m : Mx}, m.n ≤ 16 → One m → J.Nodup → (∀ j ∈ J, CanGo m j f t) → Trace m (J.map fun j => (j, f, t)) (m.shift f t J)
  | [], m, _, _, _, _ => .nil m
  | j :: J, m, hn, ho, hd, hc => by
    rw [List.nodup_cons] at hd
    have h0 := hc j (by simp)
    refine .cons h0 (shift_trace J (by rw [mv_n]; exact hn) (mv_one hn ho h0) hd.2 fun j' hj' => ?_)
    exact h0.mv hn ho (hc j' (by simp [hj'])) (fun e => hd.1 (e ▸ hj'))

/-- One row into another one, if it goes. -/
def uStep (t : Nat) (st : Mx × List (Nat × Nat × Nat)) (f : Nat) : Mx × List (Nat × Nat × Nat) :=
  if st.1.goes t (st.1.row f) then (st.1.shift f t (st.1.row f), st.2 ++ (st.1.row f).map fun j => (j, f, t)) else st
def uRow (r : Nat) (st : Mx × List (Nat × Nat × Nat)) (t : Nat) : Mx × List (Nat × Nat × Nat) := (List.range' (t + 1) (r - (t + 1))).foldl (uStep t) st
def Mx.unify (m : Mx) : Mx × List (Nat × Nat × Nat) := (List.range m.r).foldl (uRow m.r) (m, [])

/-- The first row ahead in which they may stand. -/
def Mx.ahead (m : Mx) (J : List Nat) (f : Nat) : Option Nat := (List.range f).find? fun t => m.goes t J
def rJob (f : Nat) (st : Mx × List (Nat × Nat × Nat)) (j : Nat) : Mx × List (Nat × Nat × Nat) :=
  match st.1.ahead [j] f with
  | none => st
  | some t => (st.1.mv j f t, st.2 ++ [(j, f, t)])
def rRow (st : Mx × List (Nat × Nat × Nat)) (f : Nat) : Mx × List (Nat × Nat × Nat) := (st.1.row f).foldl (rJob f) st
def Mx.repack (m : Mx) : Mx × List (Nat × Nat × Nat) := (List.range m.r).foldl rRow (m, [])

/-- A state of one of the two. -/
structure Way (m : Mx) (st : Mx × List (Nat × Nat × Nat)) : Prop where
  tr : Trace m st.2 st.1
  kp : Kept m st.1

theorem Way.start {m : Mx} (ho : One m) : Way m (m, []) := ⟨.nil m, ⟨rfl, rfl, rfl, ho, fun _ => rfl, fun _ => rfl⟩⟩

theorem Way.on {m m' : Mx} {st : Mx × List (Nat × Nat × Nat)} {l : List (Nat × Nat × Nat)} (h : Way m st) (hn : m.n ≤ 16) (ho : One m) (ht : Trace st.1 l m') : Way m (m', st.2 ++ l) := by
  have := h.tr.append ht
  exact ⟨this, this.kept hn ho⟩

theorem row_canGo {m : Mx} {t f : Nat} (ho : One m) (hf : f < m.r) (ht : t < m.r) (hne : f ≠ t) {J : List Nat} (hg : m.goes t J = true) (hJ : ∀ j ∈ J, j ∈ m.row f) : ∀ j ∈ J, CanGo m j f t := fun j hj => by
  have hw := (ho.row_where hf (hJ j hj)).1
  exact ⟨hw, hne, ht, goes_fits hg hj hw⟩

theorem Way.uStep {m : Mx} {st : Mx × List (Nat × Nat × Nat)} (h : Way m st) (hn : m.n ≤ 16) (ho : One m) {t f : Nat} (htf : t < f) (hf : f < m.r) : Way m (uStep t st f) := by
  unfold Go.Proofs.Ytdongghjchnpbaa.uStep
  by_cases hg : st.1.goes t (st.1.row f) = true
  · rw [if_pos hg]
    refine h.on hn ho (shift_trace _ (by rw [h.kp.n]; exact hn) h.kp.one (st.1.row_nodup f) ?_)
    exact row_canGo h.kp.one (by rw [h.kp.r]; exact hf) (by rw [h.kp.r]; omega) (by omega) hg (fun j hj => hj)
  · rw [if_neg hg]; exact h

theorem Way.uSteps {m : Mx} (hn : m.n ≤ 16) (ho : One m) {t : Nat} : ∀ (l : List Nat) {st : Mx × List (Nat × Nat × Nat)}, Way m st → (∀ f ∈ l, t < f ∧ f < m.r) → Way m (l.foldl (Go.Proofs.Ytdongghjchnpbaa.uStep t) st)
  | [], st, h, _ => h
  | f :: l, st, h, hl => Way.uSteps hn ho l (h.uStep hn ho (hl f (by simp)).1 (hl f (by simp)).2) fun x hx => hl x (by simp [hx])

theorem Way.uRows {m : Mx} (hn : m.n ≤ 16) (ho : One m) : ∀ (l : List Nat) {st : Mx × List (Nat × Nat × Nat)}, Way m st → Way m (l.foldl (Go.Proofs.Ytdongghjchnpbaa.uRow m.r) st)
  | [], st, h => h
  | t :: l, st, h => Way.uRows hn ho l (Way.uSteps hn ho _ h fun f hf => by rw [List.mem_range'_1] at hf; omega)

theorem unify_way {m : Mx} (hn : m.n ≤ 16) (ho : One m) : Way m m.unify := Way.uRows hn ho _ (Way.start ho)

theorem ahead_some {m : Mx} {J : List Nat} {f t : Nat} (h : m.ahead J f = some t) : t < f ∧ m.goes t J = true ∧ ∀ i, i < t → m.goes i J = false := by
  unfold Mx.ahead at h
  rw [List.find?_range_eq_some] at h
  exact ⟨List.mem_range.1 h.2.1, h.1, fun i hi => by simpa using h.2.2 i hi⟩

theorem ahead_none {m : Mx} {J : List Nat} {f : Nat} (h : m.ahead J f = none) : ∀ i, i < f → m.goes i J = false := by
  unfold Mx.ahead at h
  rw [List.find?_eq_none] at h
  intro i hi
  simpa using h i (List.mem_range.2 hi)

/-- The jobs that are still to come stand where they stood. -/
theorem Way.rJob {m : Mx} {st : Mx × List (Nat × Nat × Nat)} (h : Way m st) (hn : m.n ≤ 16) (ho : One m) {f j : Nat} (hf : f < m.r) (hj : j ∈ st.1.row f) :
    Way m (rJob f st j) ∧ ∀ j', j' ≠ j → j' ∈ st.1.row f → j' ∈ (Go.Proofs.Ytdongghjchnpbaa.rJob f st j).1.row f := by
  unfold Go.Proofs.Ytdongghjchnpbaa.rJob
  cases ha : st.1.ahead [j] f with
  | none => exact ⟨h, fun _ _ hj' => hj'⟩
  | some t =>
    have ⟨h1, h2, _⟩ := ahead_some ha
    have hc := row_canGo h.kp.one (by rw [h.kp.r]; exact hf) (by rw [h.kp.r]; omega) (by omega) h2 (fun x hx => by rw [List.mem_singleton] at hx; rw [hx]; exact hj) j (by simp)
    have hn1 : st.1.n ≤ 16 := by rw [h.kp.n]; exact hn
    refine ⟨h.on hn ho (.cons hc (.nil _)), fun j' hne hj' => ?_⟩
    have h3 := row_own.1 hj'
    refine row_own.2 ⟨h3.1, ?_⟩
    show (st.1.mv j f t).own f j' ≠ []
    rw [mv_own hn1 h.kp.one hc hc.fr h3.1, if_neg hne]
    exact h3.2

theorem Way.rJobs {m : Mx} (hn : m.n ≤ 16) (ho : One m) {f : Nat} (hf : f < m.r) : ∀ (J : List Nat) {st : Mx × List (Nat × Nat × Nat)}, Way m st → J.Nodup → (∀ j ∈ J, j ∈ st.1.row f) → Way m (J.foldl (Go.Proofs.Ytdongghjchnpbaa.rJob f) st)
  | [], st, h, _, _ => h
  | j :: J, st, h, hd, hJ => by
    rw [List.nodup_cons] at hd
    have h1 := h.rJob hn ho hf (hJ j (by simp))
    exact Way.rJobs hn ho hf J h1.1 hd.2 fun j' hj' => h1.2 j' (fun e => hd.1 (e ▸ hj')) (hJ j' (by simp [hj']))

theorem Way.rRows {m : Mx} (hn : m.n ≤ 16) (ho : One m) : ∀ (l : List Nat) {st : Mx × List (Nat × Nat × Nat)}, Way m st → (∀ f ∈ l, f < m.r) → Way m (l.foldl rRow st)
  | [], st, h, _ => h
  | f :: l, st, h, hl => Way.rRows hn ho l (Way.rJobs hn ho (hl f (by simp)) _ h (st.1.row_nodup f) fun j hj => hj) fun x hx => hl x (by simp [hx])

theorem repack_way {m : Mx} (hn : m.n ≤ 16) (ho : One m) : Way m m.repack := Way.rRows hn ho _ (Way.start ho) fun f hf => List.mem_range.1 hf

end Go.Proofs.Ytdongghjchnpbaa
