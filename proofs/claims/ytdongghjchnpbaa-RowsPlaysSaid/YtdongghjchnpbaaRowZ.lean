/-
  Matrices that are built of widths: what is so of them.
-/
import Derived.Test.YtdongghjchnpbaaRowY
namespace Go.Proofs.Ytdongghjchnpbaa
open Go.RowKit Go.Shelf
set_option linter.unusedVariables false

/-- All nodes are up; each job stands in one row, at as many nodes as it asked for; none above c stands. -/
structure Built (ws : List Nat) (c : Nat) (m : Mx) : Prop where
  up : ∀ k, m.d k = false
  one : ∀ j row row', j ≠ 0 → row < m.r → row' < m.r → m.own row j ≠ [] → m.own row' j ≠ [] → row = row'
  wide : ∀ j row, j ≠ 0 → row < m.r → m.own row j ≠ [] → j ≤ c ∧ ∃ x, ws[j - 1]? = some x ∧ (m.own row j).length = 1 + x % 6

theorem own_congr {m m' : Mx} {i j j' : Nat} (hn : m'.n = m.n) (h : ∀ k, k < m.n → (m'.c (16 * i + k) == j') = (m.c (16 * i + k) == j)) : m'.own i j' = m.own i j := by
  unfold Mx.own Mx.at
  rw [hn]
  exact List.filter_congr fun k hk => h k (List.mem_range.1 hk)

theorem own_nil {m : Mx} {i j : Nat} (h : ∀ k, k < m.n → m.c (16 * i + k) ≠ j) : m.own i j = [] := by
  unfold Mx.own Mx.at
  rw [List.filter_eq_nil_iff]
  intro k hk
  have := h k (List.mem_range.1 hk)
  simpa using this

theorem own_mem {m : Mx} {i j k : Nat} : k ∈ m.own i j ↔ k < m.n ∧ m.c (16 * i + k) = j := by
  unfold Mx.own
  rw [Mx.at_mem]
  simp

theorem free_mem {m : Mx} {i k : Nat} : k ∈ m.free i ↔ k < m.n ∧ m.c (16 * i + k) = 0 ∧ m.d k = false := by
  unfold Mx.free
  rw [Mx.at_mem]
  simp

theorem filter_sub {l xs : List Nat} (h : l.Sublist xs) (hn : xs.Nodup) : xs.filter (fun k => decide (k ∈ l)) = l := by
  induction h with
  | slnil => rfl
  | @cons l xs a h ih =>
    rw [List.nodup_cons] at hn
    rw [List.filter_cons_of_neg (by simpa using fun hm => hn.1 (h.subset hm))]
    exact ih hn.2
  | @cons_cons l xs a h ih =>
    rw [List.nodup_cons] at hn
    rw [List.filter_cons_of_pos (by simp)]
    congr 1
    have := ih hn.2
    conv => rhs; rw [← this]
    refine List.filter_congr fun k hk => ?_
    have : k ≠ a := fun e => hn.1 (e ▸ hk)
    simp [this]

theorem free_sub (m : Mx) (row k : Nat) : ((m.free row).take k).Sublist (List.range m.n) := (List.take_sublist _ _).trans List.filter_sublist

/-- What a job has once it stands. -/
theorem own_stand_self {m : Mx} {row j k : Nat} (hn : m.n ≤ 16) (h0 : m.own row j = []) : (m.stand row ((m.free row).take k) j).own row j = (m.free row).take k := by
  unfold Mx.own Mx.at
  rw [Mx.stand_n]
  have : ∀ x ∈ List.range m.n, ((m.stand row ((m.free row).take k) j).c (16 * row + x) == j) = decide (x ∈ (m.free row).take k) := by
    intro x hx
    have hxn := List.mem_range.1 hx
    rw [Mx.stand_cell _ _ _ _ _ _ (free_lt hn) (by omega)]
    by_cases hm : x ∈ (m.free row).take k
    · rw [if_pos ⟨rfl, hm⟩]; simp [hm]
    · rw [if_neg (fun h => hm h.2)]
      have : m.c (16 * row + x) ≠ j := fun e => by
        have := own_mem.2 ⟨hxn, e⟩
        rw [h0] at this
        cases this
      simp [hm, this]
  rw [List.filter_congr this]
  exact filter_sub (free_sub m row k) List.nodup_range

theorem own_stand_row {m : Mx} {row j i k : Nat} (hn : m.n ≤ 16) (hi : i ≠ row) (j' : Nat) : (m.stand row ((m.free row).take k) j).own i j' = m.own i j' := by
  refine own_congr (Mx.stand_n _ _ _ _) fun x hx => ?_
  rw [Mx.stand_cell _ _ _ _ _ _ (free_lt hn) (by omega), if_neg (fun h => hi h.1)]

theorem own_stand_job {m : Mx} {row j i k j' : Nat} (hn : m.n ≤ 16) (hj' : j' ≠ 0) (hjj : j' ≠ j) : (m.stand row ((m.free row).take k) j).own i j' = m.own i j' := by
  refine own_congr (Mx.stand_n _ _ _ _) fun x hx => ?_
  rw [Mx.stand_cell _ _ _ _ _ _ (free_lt hn) (by omega)]
  by_cases h : i = row ∧ x ∈ (m.free row).take k
  · rw [if_pos h, h.1]
    have := (free_mem.1 (List.mem_of_mem_take h.2)).2.1
    rw [this]
    have a : (j == j') = false := by simpa using Ne.symm hjj
    have b : (0 == j') = false := by simpa using Ne.symm hj'
    rw [a, b]
  · rw [if_neg h]

theorem own_gone {m : Mx} {row j i j' : Nat} (hn : m.n ≤ 16) (hj' : j' ≠ 0) (h : j' ≠ j ∨ i ≠ row) : (m.stand row (m.own row j) 0).own i j' = m.own i j' := by
  refine own_congr (Mx.stand_n _ _ _ _) fun x hx => ?_
  rw [Mx.stand_cell _ _ _ _ _ _ (own_lt hn) (by omega)]
  by_cases h2 : i = row ∧ x ∈ m.own row j
  · rw [if_pos h2, h2.1]
    have hc := (own_mem.1 h2.2).2
    rcases h with h | h
    · rw [hc]
      have a : (j == j') = false := by simpa using Ne.symm h
      have b : (0 == j') = false := by simpa using Ne.symm hj'
      rw [a, b]
    · exact absurd h2.1 h
  · rw [if_neg h2]

theorem own_gone_self {m : Mx} {row j : Nat} (hn : m.n ≤ 16) (hj : j ≠ 0) : (m.stand row (m.own row j) 0).own row j = [] := by
  refine own_nil fun x hx => ?_
  rw [Mx.stand_n] at hx
  rw [Mx.stand_cell _ _ _ _ _ _ (own_lt hn) (by omega)]
  by_cases h2 : x ∈ m.own row j
  · rw [if_pos ⟨rfl, h2⟩]; exact Ne.symm hj
  · rw [if_neg (fun h => h2 h.2)]
    exact fun e => h2 (own_mem.2 ⟨hx, e⟩)

theorem built0 (ws : List Nat) (r n : Nat) : Built ws 0 (mx0 r n) := by
  have : ∀ j row, j ≠ 0 → (mx0 r n).own row j = [] := fun j row hj => own_nil fun k _ => Ne.symm hj
  exact ⟨fun _ => rfl, fun j row row' hj _ _ h _ => absurd (this j row hj) h, fun j row hj _ h => absurd (this j row hj) h⟩

theorem Built.mono {ws : List Nat} {c c' : Nat} {m : Mx} (h : Built ws c m) (hc : c ≤ c') : Built ws c' m :=
  ⟨h.up, h.one, fun j row hj hr hne => ⟨Nat.le_trans (h.wide j row hj hr hne).1 hc, (h.wide j row hj hr hne).2⟩⟩

theorem where_none_of {m : Mx} {j : Nat} (h : ∀ i, i < m.r → m.own i j = []) : m.where j = none := by
  unfold Mx.where
  split
  · rfl
  · exact Mx.find_of_none _ _ fun i h1 h2 => h i (by omega)

theorem Built.stand {ws : List Nat} {c row x : Nat} {m : Mx} (h : Built ws c m) (hn : m.n ≤ 16) (hx : ws[c]? = some x) (hrow : row < m.r) (hk : 1 + x % 6 ≤ (m.free row).length) :
    Built ws (c + 1) (m.stand row ((m.free row).take (1 + x % 6)) (c + 1)) := by
  have hno : ∀ i, i < m.r → m.own i (c + 1) = [] := fun i hi => by
    apply Classical.byContradiction
    intro hne
    have := (h.wide (c + 1) i (by omega) hi hne).1
    omega
  have hself := own_stand_self (row := row) (k := 1 + x % 6) hn (hno row hrow)
  refine ⟨fun k => by rw [Mx.stand_d]; exact h.up k, fun j i i' hj hi hi' a b => ?_, fun j i hj hi a => ?_⟩
  · rw [Mx.stand_r] at hi hi'
    by_cases hjc : j = c + 1
    · subst hjc
      by_cases e1 : i = row
      · by_cases e2 : i' = row
        · rw [e1, e2]
        · rw [own_stand_row hn e2] at b; exact absurd (hno i' hi') b
      · rw [own_stand_row hn e1] at a; exact absurd (hno i hi) a
    · rw [own_stand_job hn hj hjc] at a b
      exact h.one j i i' hj hi hi' a b
  · rw [Mx.stand_r] at hi
    by_cases hjc : j = c + 1
    · subst hjc
      by_cases e1 : i = row
      · subst e1
        refine ⟨Nat.le_refl _, x, by simpa using hx, ?_⟩
        rw [hself, List.length_take]; omega
      · rw [own_stand_row hn e1] at a; exact absurd (hno i hi) a
    · rw [own_stand_job hn hj hjc] at a ⊢
      obtain ⟨h1, h2⟩ := h.wide j i hj hi a
      exact ⟨by omega, h2⟩

theorem Built.gone {ws : List Nat} {c row j0 : Nat} {m : Mx} (h : Built ws c m) (hn : m.n ≤ 16) (hj0 : j0 ≠ 0) : Built ws c (m.stand row (m.own row j0) 0) := by
  have hown : ∀ j i, j ≠ 0 → (m.stand row (m.own row j0) 0).own i j ≠ [] → (m.stand row (m.own row j0) 0).own i j = m.own i j := fun j i hj hne => by
    by_cases e : j = j0 ∧ i = row
    · obtain ⟨rfl, rfl⟩ := e
      exact absurd (own_gone_self hn hj) hne
    · exact own_gone hn hj (by
        by_cases e1 : j = j0
        · exact .inr fun e2 => e ⟨e1, e2⟩
        · exact .inl e1)
  refine ⟨fun k => by rw [Mx.stand_d]; exact h.up k, fun j i i' hj hi hi' a b => ?_, fun j i hj hi a => ?_⟩
  · rw [Mx.stand_r] at hi hi'
    rw [hown j i hj a] at a
    rw [hown j i' hj b] at b
    exact h.one j i i' hj hi hi' a b
  · rw [Mx.stand_r] at hi
    have e := hown j i hj a
    rw [e] at a ⊢
    exact h.wide j i hj hi a

/-- What became of the matrix of block b. -/
def StepTo (ws : List Nat) (c b : Nat) (m : Mx) (w : World) (e : Ending) (w' : World) : Prop :=
  ∃ u m', e = .returned u ∧ MxAt w' b m' ∧ Built ws c m' ∧ m'.r = m.r ∧ m'.n = m.n ∧ Keeps (fun i => i = b) w w'

theorem place_step (w : World) (b c x : Nat) (ws : List Nat) (m : Mx) (h : MxAt w b m) (hb : Built ws c m) (hx : ws[c]? = some x) (hc : c < 40) :
    Calls Try.prog 14 #[.pointer (some ⟨b, 0, none⟩), .int .u32 ((c + 1 : Nat) : Int), .int .i64 ((1 + x % 6 : Nat) : Int)] w (StepTo ws (c + 1) b m w) := by
  have hwn : m.where (c + 1) = none := where_none_of fun i hi => by
    apply Classical.byContradiction
    intro hne
    have := (hb.wide (c + 1) i (by omega) hi hne).1
    omega
  by_cases hw : m.n < 1 + x % 6
  · refine (place_wide w b (c + 1) ((1 + x % 6 : Nat) : Int) m h (by omega) (by omega) hwn (by omega)).mono ?_
    rintro e w' ⟨rfl, hb'⟩
    exact ⟨_, m, rfl, h.below hb' h.lt, hb.mono (by omega), rfl, rfl, Keeps.of_below hb' (fun i h1 h2 => by omega)⟩
  · cases hr : m.room (1 + x % 6) 0 m.r with
    | none =>
      refine (place_full w b (c + 1) (1 + x % 6) m h (by omega) (by omega) hwn (by omega) hr).mono ?_
      rintro e w' ⟨rfl, hb'⟩
      exact ⟨_, m, rfl, h.below hb' h.lt, hb.mono (by omega), rfl, rfl, Keeps.of_below hb' (fun i h1 h2 => by omega)⟩
    | some row =>
      refine (place_yes w b (c + 1) (1 + x % 6) row m h (by omega) (by omega) (by omega) hwn (by omega) hr).mono ?_
      rintro e w' ⟨v, rfl, hv, hm, hk⟩
      obtain ⟨-, h2, h3, -⟩ := Mx.room_some _ _ _ hr
      exact ⟨_, _, rfl, hm, hb.stand h.n16 hx (by omega) h3, Mx.stand_r _ _ _ _, Mx.stand_n _ _ _ _, hk⟩

theorem remove_step (w : World) (b c j : Nat) (ws : List Nat) (m : Mx) (h : MxAt w b m) (hb : Built ws c m) :
    Calls Try.prog 19 #[.pointer (some ⟨b, 0, none⟩), .int .u32 (j : Nat)] w (StepTo ws c b m w) := by
  cases hw : m.where j with
  | none =>
    refine (remove_no w b j m h hw).mono ?_
    rintro e w' ⟨rfl, hb'⟩
    exact ⟨_, m, rfl, h.below hb' h.lt, hb, rfl, rfl, Keeps.of_below hb' (fun i h1 h2 => by omega)⟩
  | some row =>
    refine (remove_yes w b j row m h hw).mono ?_
    rintro e w' ⟨rfl, hm, hk⟩
    exact ⟨_, _, rfl, hm, hb.gone h.n16 (Mx.where_some hw).1, Mx.stand_r _ _ _ _, Mx.stand_n _ _ _ _, hk⟩

end Go.Proofs.Ytdongghjchnpbaa
