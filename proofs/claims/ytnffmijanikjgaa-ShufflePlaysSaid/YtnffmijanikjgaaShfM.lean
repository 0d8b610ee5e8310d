/-
  Putting rows together, plainly: once jobs stand as far ahead as they go nothing moves; once rows were put together each overlaps each.
-/
import Derived.Test.YtnffmijanikjgaaShfE
namespace Go.Proofs.Ytnffmijanikjgaa
open Go.RowKit Go.Shelf
set_option linter.unusedVariables false

theorem goes_one {m : Mx} {t j : Nat} : m.goes t [j] = true ↔ ∀ k ∈ m.nodes j, m.c (16 * t + k) = 0 := by
  unfold Mx.goes
  simp

theorem goes_one_false {m : Mx} {t j : Nat} : m.goes t [j] = false ↔ ∃ k ∈ m.nodes j, m.c (16 * t + k) ≠ 0 := by
  rw [Bool.eq_false_iff, Ne, goes_one]
  constructor
  · intro h
    apply Classical.byContradiction
    intro h2
    exact h fun k hk => Classical.byContradiction fun h3 => h2 ⟨k, hk, h3⟩
  · rintro ⟨k, hk, h⟩ h2
    exact h (h2 k hk)

theorem goes_all {m : Mx} {t : Nat} {J : List Nat} : m.goes t J = true ↔ ∀ j ∈ J, m.goes t [j] = true := by
  unfold Mx.goes
  rw [List.all_eq_true]
  simp

/-- A row ahead doesn't become free for anybody by a move into a row ahead. -/
theorem mv_goes_false {m : Mx} {j f t : Nat} (hn : m.n ≤ 16) (ho : One m) (hc : CanGo m j f t) {x t' : Nat} (ht' : t' ≠ f) (h : m.goes t' [x] = false) : (m.mv j f t).goes t' [x] = false := by
  obtain ⟨k, hk, hne⟩ := goes_one_false.1 h
  refine goes_one_false.2 ⟨k, by rw [mv_nodes hn ho hc]; exact hk, ?_⟩
  rw [mv_cell hn _ _ (by have := nodes_lt k hk; omega)]
  by_cases h1 : t' = t ∧ k ∈ m.own f j
  · rw [if_pos h1]; exact hc.j0
  · rw [if_neg h1, if_neg (fun h => ht' h.1)]; exact hne

/-- Nobody of these rows may go ahead. -/
def StTo (m : Mx) (F : Nat) : Prop := ∀ i, i < F → ∀ x ∈ m.row i, ∀ t, t < i → m.goes t [x] = false

/-- And nobody of this row who is none of these. -/
def StIn (m : Mx) (f : Nat) (J : List Nat) : Prop := StTo m f ∧ ∀ x ∈ m.row f, x ∉ J → ∀ t, t < f → m.goes t [x] = false

theorem row_mv {m : Mx} {j f t : Nat} (hn : m.n ≤ 16) (ho : One m) (hc : CanGo m j f t) {i x : Nat} (hi : i < m.r) (hx : x ∈ (m.mv j f t).row i) : (x = j ∧ i = t) ∨ (x ≠ j ∧ x ∈ m.row i) := by
  have h := row_own.1 hx
  rw [mv_own hn ho hc hi h.1] at h
  by_cases e : x = j
  · rw [if_pos e] at h
    by_cases e2 : i = t
    · exact .inl ⟨e, e2⟩
    · rw [if_neg e2] at h; exact absurd rfl h.2
  · rw [if_neg e] at h
    exact .inr ⟨e, row_own.2 h⟩

theorem led_step {m : Mx} (hn : m.n ≤ 16) (ho : One m) {f j : Nat} (hf : f < m.r) (hj : j ∈ m.row f) {J : List Nat} (h : StIn m f (j :: J)) : StIn (m.led f j).1 f J ∧ One (m.led f j).1 ∧ (m.led f j).1.r = m.r ∧ (m.led f j).1.n = m.n ∧ ∀ x ∈ J, x ≠ j → x ∈ m.row f → x ∈ (m.led f j).1.row f := by
  unfold Mx.led
  cases ha : m.ahead [j] f with
  | none =>
    refine ⟨⟨h.1, fun x hx hxJ t ht => ?_⟩, ho, rfl, rfl, fun _ _ _ hx => hx⟩
    by_cases e : x = j
    · rw [e]; exact ahead_none ha t ht
    · exact h.2 x hx (by simp [e, hxJ]) t ht
  | some t0 =>
    have ⟨h1, h2, h3⟩ := ahead_some ha
    have hc := row_canGo ho hf (by omega) (by omega) h2 (fun x hx => by rw [List.mem_singleton] at hx; rw [hx]; exact hj) j (by simp)
    refine ⟨⟨fun i hi x hx t ht => ?_, fun x hx hxJ t ht => ?_⟩, mv_one hn ho hc, mv_r _ _ _ _, mv_n _ _ _ _, fun x _ hxj hx => ?_⟩
    · rcases row_mv hn ho hc (by omega) hx with ⟨rfl, rfl⟩ | ⟨_, hx⟩
      · exact mv_goes_false hn ho hc (by omega) (h3 t ht)
      · exact mv_goes_false hn ho hc (by omega) (h.1 i hi x hx t ht)
    · rcases row_mv hn ho hc hf hx with ⟨_, e⟩ | ⟨e, hx⟩
      · omega
      · exact mv_goes_false hn ho hc (by omega) (h.2 x hx (by simp [e, hxJ]) t ht)
    · have hx1 := row_own.1 hx
      refine row_own.2 ⟨hx1.1, ?_⟩
      show (m.mv j f t0).own f x ≠ []
      rw [mv_own hn ho hc hf hx1.1, if_neg hxj]
      exact hx1.2

theorem led_fold {f : Nat} : ∀ (J : List Nat) {st : Mx × List (Nat × Nat × Nat)}, st.1.n ≤ 16 → One st.1 → f < st.1.r → J.Nodup → (∀ j ∈ J, j ∈ st.1.row f) → StIn st.1 f J → StIn (J.foldl (rJob f) st).1 f []
  | [], _, _, _, _, _, _, h => h
  | j :: J, st, hn, ho, hf, hd, hJ, h => by
    rw [List.nodup_cons] at hd
    have h1 := led_step hn ho hf (hJ j (by simp)) h
    rw [List.foldl_cons, rJob_led]
    refine led_fold J (by rw [h1.2.2.2.1]; exact hn) h1.2.1 (by rw [h1.2.2.1]; exact hf) hd.2 (fun x hx => h1.2.2.2.2 x hx (fun e => hd.1 (e ▸ hx)) (hJ x (by simp [hx]))) h1.1

theorem rTo_succ (m : Mx) (f : Nat) : m.rTo (f + 1) = ((m.rTo f).1.row f).foldl (rJob f) (m.rTo f) := by
  show (List.range (f + 1)).foldl rRow (m, []) = _
  rw [List.range_succ, List.foldl_append]; rfl

theorem rTo_st {m : Mx} (hn : m.n ≤ 16) (ho : One m) : ∀ f, f ≤ m.r → StTo (m.rTo f).1 f
  | 0, _ => fun i hi => absurd hi (by omega)
  | f + 1, hf => by
    have hw := rTo_way hn ho f (by omega)
    have h := led_fold ((m.rTo f).1.row f) (st := m.rTo f) (by rw [hw.kp.n]; exact hn) hw.kp.one (by rw [hw.kp.r]; omega) (Mx.row_nodup _ _) (fun j hj => hj) ⟨rTo_st hn ho f (by omega), fun x hx hxJ => absurd hx hxJ⟩
    rw [← rTo_succ] at h
    intro i hi x hx t ht
    by_cases e : i = f
    · subst e; exact h.2 x hx (by simp) t ht
    · exact h.1 i (by omega) x hx t ht

/-- Nobody may go ahead. -/
def Stable (m : Mx) : Prop := StTo m m.r

theorem repack_stable {m : Mx} (hn : m.n ≤ 16) (ho : One m) : Stable m.repack.1 := by
  have h := rTo_st hn ho m.r (Nat.le_refl _)
  rw [rTo_last] at h
  unfold Stable
  rw [(repack_way hn ho).kp.r]
  exact h

theorem led_stable {m : Mx} {f j : Nat} (h : Stable m) (hf : f < m.r) (hj : j ∈ m.row f) : m.led f j = (m, []) := by
  unfold Mx.led
  rw [ahead_of_none (h f hf j hj)]

theorem fold_stable {m : Mx} {f : Nat} (h : Stable m) (hf : f < m.r) : ∀ (J : List Nat), (∀ j ∈ J, j ∈ m.row f) → J.foldl (rJob f) (m, []) = (m, [])
  | [], _ => rfl
  | j :: J, hJ => by
    rw [List.foldl_cons, rJob_led]
    show J.foldl (rJob f) ((m.led f j).1, [] ++ (m.led f j).2) = _
    rw [led_stable h hf (hJ j (by simp))]
    exact fold_stable h hf J fun x hx => hJ x (by simp [hx])

theorem rTo_stable {m : Mx} (h : Stable m) : ∀ f, f ≤ m.r → m.rTo f = (m, [])
  | 0, _ => rfl
  | f + 1, hf => by
    rw [rTo_succ, rTo_stable h f (by omega)]
    exact fold_stable h (by omega) _ fun j hj => hj

theorem repack_again {m : Mx} (h : Stable m) : m.repack = (m, []) := by
  rw [← rTo_last]; exact rTo_stable h m.r (Nat.le_refl _)

/-- A step of the other one that does nothing. -/
theorem uStep_none {m : Mx} {t f : Nat} {l : List (Nat × Nat × Nat)} (h : m.row f = [] ∨ m.goes t (m.row f) = false) : uStep t (m, l) f = (m, l) := by
  unfold uStep
  rcases h with h | h
  · show (if m.goes t (m.row f) = true then _ else _) = _
    rw [h]
    split
    · simp [Mx.shift]
    · rfl
  · rw [if_neg (by simp [h])]

theorem unify_none {m : Mx} (h : ∀ t f, t < f → f < m.r → m.row f = [] ∨ m.goes t (m.row f) = false) : m.unify = (m, []) := by
  have h1 : ∀ t, t ≤ m.r → ∀ q, (t + 1 + q ≤ m.r ∨ q = 0) → (List.range' (t + 1) q).foldl (uStep t) (m, []) = (m, []) := by
    intro t ht q
    induction q with
    | zero => intro _; rfl
    | succ q ih =>
      intro hq
      rw [List.range'_1_concat, List.foldl_append, ih (by omega)]
      exact uStep_none (h t (t + 1 + q) (by omega) (by omega))
  have h2 : ∀ t, t ≤ m.r → (List.range t).foldl (uRow m.r) (m, []) = (m, []) := by
    intro t
    induction t with
    | zero => intro _; rfl
    | succ t ih =>
      intro ht
      rw [List.range_succ, List.foldl_append, ih (by omega)]
      exact h1 t (by omega) _ (by omega)
  exact h2 m.r (Nat.le_refl _)

theorem unify_stable {m : Mx} (h : Stable m) : m.unify = (m, []) := by
  refine unify_none fun t f htf hf => ?_
  cases hr : m.row f with
  | nil => exact .inl rfl
  | cons j J =>
    right
    rw [Bool.eq_false_iff]
    intro hg
    have := goes_all.1 hg j (by simp)
    rw [h f hf j (by rw [hr]; simp) t htf] at this
    cases this

/-- Two rows have a node that both use. -/
def Ov (m : Mx) (t f : Nat) : Prop := ∃ k, k < m.n ∧ m.c (16 * t + k) ≠ 0 ∧ m.c (16 * f + k) ≠ 0

theorem goes_ov {m : Mx} (ho : One m) {t f : Nat} (hf : f < m.r) : m.goes t (m.row f) = false ↔ Ov m t f := by
  constructor
  · intro h
    apply Classical.byContradiction
    intro h2
    have : m.goes t (m.row f) = true := by
      rw [goes_all]
      intro j hj
      rw [goes_one]
      intro k hk
      have hw := (ho.row_where hf hj).1
      rw [Mx.nodes_of hw] at hk
      have hk2 := own_mem.1 hk
      apply Classical.byContradiction
      intro h3
      exact h2 ⟨k, hk2.1, h3, by rw [hk2.2]; exact (ho.row_where hf hj).2⟩
    rw [h] at this
    cases this
  · rintro ⟨k, hk, h1, h2⟩
    have hj : m.c (16 * f + k) ∈ m.row f := Mx.row_mem.2 ⟨k, hk, h2, rfl⟩
    refine goes_false hj ?_ h1
    rw [Mx.nodes_of (ho.row_where hf hj).1]
    exact own_mem.2 ⟨hk, rfl⟩

theorem row_none {m : Mx} {i : Nat} : m.row i = [] ↔ ∀ k, k < m.n → m.c (16 * i + k) = 0 := by
  constructor
  · intro h k hk
    apply Classical.byContradiction
    intro h2
    have : m.c (16 * i + k) ∈ m.row i := Mx.row_mem.2 ⟨k, hk, h2, rfl⟩
    rw [h] at this; cases this
  · intro h
    cases hr : m.row i with
    | nil => rfl
    | cons j J =>
      have : j ∈ m.row i := by rw [hr]; simp
      obtain ⟨k, hk, h1, _⟩ := Mx.row_mem.1 this
      exact absurd (h k hk) h1

/-- All of a row's jobs have moved to another one: cell by cell. -/
theorem shift_cell {f t : Nat} : ∀ (J : List Nat) {m : Mx}, m.n ≤ 16 → One m → J.Nodup → (∀ j ∈ J, CanGo m j f t) → ∀ i k, k < m.n → (m.shift f t J).c (16 * i + k) = if (∃ j ∈ J, k ∈ m.own f j) then (if i = t then m.c (16 * f + k) else if i = f then 0 else m.c (16 * i + k)) else m.c (16 * i + k)
  | [], m, hn, ho, hd, hc, i, k, hk => by simp [Mx.shift]
  | j :: J, m, hn, ho, hd, hc, i, k, hk => by
    rw [List.nodup_cons] at hd
    have h0 := hc j (by simp)
    have hn1 : (m.mv j f t).n ≤ 16 := by rw [mv_n]; exact hn
    have hc1 : ∀ j' ∈ J, CanGo (m.mv j f t) j' f t := fun j' hj' => h0.mv hn ho (hc j' (by simp [hj'])) (fun e => hd.1 (e ▸ hj'))
    have ih := shift_cell J hn1 (mv_one hn ho h0) hd.2 hc1 i k (by rw [mv_n]; exact hk)
    show ((m.mv j f t).shift f t J).c (16 * i + k) = _
    rw [ih]
    have hown : ∀ j' ∈ J, (m.mv j f t).own f j' = m.own f j' := fun j' hj' => by
      rw [mv_own hn ho h0 h0.fr (hc j' (by simp [hj'])).j0]
      exact if_neg (fun (e : j' = j) => hd.1 (e ▸ hj'))
    have hex : (∃ j' ∈ J, k ∈ (m.mv j f t).own f j') ↔ ∃ j' ∈ J, k ∈ m.own f j' := by
      constructor
      · rintro ⟨j', hj', h⟩; exact ⟨j', hj', by rw [← hown j' hj']; exact h⟩
      · rintro ⟨j', hj', h⟩; exact ⟨j', hj', by rw [hown j' hj']; exact h⟩
    have hk16 : k < 16 := by omega
    by_cases hkj : k ∈ m.own f j
    · have hck := (own_mem.1 hkj).2
      have hno : ¬ ∃ j' ∈ J, k ∈ m.own f j' := by
        rintro ⟨j', hj', h⟩
        have := (own_mem.1 h).2
        rw [hck] at this
        exact hd.1 (this ▸ hj')
      rw [if_neg (fun h => hno (hex.1 h)), if_pos ⟨j, by simp, hkj⟩, mv_cell hn _ _ hk16]
      by_cases e1 : i = t
      · rw [if_pos ⟨e1, hkj⟩, if_pos e1, hck]
      · rw [if_neg (fun h => e1 h.1), if_neg e1]
        by_cases e2 : i = f
        · rw [if_pos ⟨e2, hkj⟩, if_pos e2]
        · rw [if_neg (fun h => e2 h.1), if_neg e2]
    · have hmc : ∀ i', (m.mv j f t).c (16 * i' + k) = m.c (16 * i' + k) := fun i' => by
        rw [mv_cell hn _ _ hk16, if_neg (fun h => hkj h.2), if_neg (fun h => hkj h.2)]
      rw [hmc, hmc]
      by_cases hJ : ∃ j' ∈ J, k ∈ m.own f j'
      · have h2 : ∃ j' ∈ j :: J, k ∈ m.own f j' := by
          obtain ⟨j', hj', h⟩ := hJ
          exact ⟨j', by simp [hj'], h⟩
        rw [if_pos (hex.2 hJ), if_pos h2]
      · have h2 : ¬ ∃ j' ∈ j :: J, k ∈ m.own f j' := by
          rintro ⟨j', hj', h⟩
          rcases List.mem_cons.1 hj' with rfl | hj'
          · exact hkj h
          · exact hJ ⟨j', hj', h⟩
        rw [if_neg (fun h => hJ (hex.1 h)), if_neg h2]

/-- A whole row has moved. -/
theorem shift_row {m : Mx} (hn : m.n ≤ 16) (ho : One m) {f t : Nat} (hf : f < m.r) (ht : t < m.r) (hne : f ≠ t) (hg : m.goes t (m.row f) = true) (i k : Nat) (hk : k < m.n) :
    (m.shift f t (m.row f)).c (16 * i + k) = if i = t then (if m.c (16 * f + k) ≠ 0 then m.c (16 * f + k) else m.c (16 * t + k)) else if i = f then 0 else m.c (16 * i + k) := by
  rw [shift_cell _ hn ho (Mx.row_nodup _ _) (row_canGo ho hf ht hne hg fun j hj => hj) i k hk]
  by_cases h0 : m.c (16 * f + k) = 0
  · have : ¬ ∃ j ∈ m.row f, k ∈ m.own f j := by
      rintro ⟨j, hj, h⟩
      have := (own_mem.1 h).2
      rw [h0] at this
      exact (ho.row_where hf hj).2 this.symm
    rw [if_neg this]
    by_cases e1 : i = t
    · rw [if_pos e1, if_neg (by simpa using h0), e1]
    · rw [if_neg e1]
      by_cases e2 : i = f
      · rw [if_pos e2, e2, h0]
      · rw [if_neg e2]
  · have : ∃ j ∈ m.row f, k ∈ m.own f j := ⟨m.c (16 * f + k), Mx.row_mem.2 ⟨k, hk, h0, rfl⟩, own_mem.2 ⟨hk, rfl⟩⟩
    rw [if_pos this, if_pos h0]

/-- Each of the first rows overlaps each behind it that has anybody; and row t those up to f. -/
def Apart13 (m : Mx) (t q : Nat) : Prop := ∀ a b, a < b → b < m.r → (a < t ∨ (a = t ∧ b < q)) → m.row b ≠ [] → Ov m a b

theorem Apart13.step {m : Mx} (hn : m.n ≤ 16) (ho : One m) {t f : Nat} {l : List (Nat × Nat × Nat)} (htf : t < f) (hf : f < m.r) (h : Apart13 m t f) : Apart13 (uStep t (m, l) f).1 t (f + 1) := by
  unfold uStep
  cases hg : m.goes t (m.row f) with
  | false =>
    rw [if_neg (by simp)]
    show Apart13 m t (f + 1)
    intro a b hab hb hc hne
    by_cases e : a = t ∧ b = f
    · rw [e.1, e.2]; exact (goes_ov ho hf).1 hg
    · exact h a b hab hb (by omega) hne
  | true =>
    rw [if_pos rfl]
    show Apart13 (m.shift f t (m.row f)) t (f + 1)
    have hcell := shift_row hn ho hf (by omega) (by omega) hg
    have hrr := shift_r f t (m.row f) m
    have hnn := shift_n f t (m.row f) m
    intro a b hab hb hc hne
    rw [hrr] at hb
    have hne2 : ∃ k, k < m.n ∧ (m.shift f t (m.row f)).c (16 * b + k) ≠ 0 := by
      apply Classical.byContradiction
      intro h2
      refine hne (row_none.2 fun k hk => ?_)
      rw [hnn] at hk
      exact Classical.byContradiction fun h3 => h2 ⟨k, hk, h3⟩
    obtain ⟨k0, hk0, hk1⟩ := hne2
    have hbf : b ≠ f := by
      rintro rfl
      rw [hcell b k0 hk0, if_neg (by omega), if_pos rfl] at hk1
      exact hk1 rfl
    unfold Ov
    rw [hnn]
    by_cases hbt : b = t
    · subst hbt
      rw [hcell b k0 hk0, if_pos rfl] at hk1
      have hat : a < b := hab
      have haf : a ≠ f := by omega
      -- one of the two rows that came together had it
      by_cases hb0 : m.row b = []
      · have hf0 : m.row f ≠ [] := by
          intro hf0
          have h1 := row_none.1 hb0 k0 hk0
          have h2 := row_none.1 hf0 k0 hk0
          rw [if_neg (by simpa using h2), h1] at hk1
          exact hk1 rfl
        obtain ⟨k, hk, h1, h2⟩ := h a f (by omega) hf (.inl hat) hf0
        refine ⟨k, hk, ?_, ?_⟩
        · rw [hcell a k hk, if_neg (by omega), if_neg haf]; exact h1
        · rw [hcell b k hk, if_pos rfl, if_pos h2]; exact h2
      · obtain ⟨k, hk, h1, h2⟩ := h a b hab hb (.inl hat) hb0
        refine ⟨k, hk, ?_, ?_⟩
        · rw [hcell a k hk, if_neg (by omega), if_neg haf]; exact h1
        · rw [hcell b k hk, if_pos rfl]
          split
          · assumption
          · exact h2
    · have hb0 : m.row b ≠ [] := by
        intro hb0
        rw [hcell b k0 hk0, if_neg hbt, if_neg hbf] at hk1
        exact hk1 (row_none.1 hb0 k0 hk0)
      have haf : a ≠ f := by
        rintro rfl
        omega
      obtain ⟨k, hk, h1, h2⟩ := h a b hab hb (by omega) hb0
      refine ⟨k, hk, ?_, ?_⟩
      · rw [hcell a k hk]
        by_cases e : a = t
        · rw [if_pos e]
          split
          · assumption
          · rw [← e]; exact h1
        · rw [if_neg e, if_neg haf]; exact h1
      · rw [hcell b k hk, if_neg hbt, if_neg hbf]; exact h2

theorem uAt_apart {m : Mx} (hn : m.n ≤ 16) (ho : One m) : ∀ t, t ≤ m.r → ∀ q, (t + 1 + q ≤ m.r ∨ q = 0) → Apart13 (m.uAt t q).1 t (t + 1 + q)
  | t, ht, q + 1, hq => by
    have hw := uAt_way hn ho t q (by omega)
    have ih := uAt_apart hn ho t ht q (by omega)
    rw [uAt_succ]
    exact ih.step (l := (m.uAt t q).2) (by rw [hw.kp.n]; exact hn) hw.kp.one (by omega) (by rw [hw.kp.r]; omega)
  | 0, _, 0, _ => fun a b hab _ hc _ => by omega
  | t + 1, ht, 0, _ => by
    have ih := uAt_apart hn ho t (by omega) (m.r - (t + 1)) (by omega)
    have hw := uAt_way hn ho t (m.r - (t + 1)) (by omega)
    rw [uAt_row m t (by omega)] at ih hw
    intro a b hab hb hc hne
    have hr := hw.kp.r
    exact ih a b hab hb (by omega) hne

theorem unify_ov {m : Mx} (hn : m.n ≤ 16) (ho : One m) : ∀ a b, a < b → b < m.unify.1.r → m.unify.1.row b ≠ [] → Ov m.unify.1 a b := by
  have h := uAt_apart hn ho m.r (Nat.le_refl _) 0 (.inr rfl)
  rw [uAt_last] at h
  have hr := (unify_way hn ho).kp.r
  intro a b hab hb hne
  exact h a b hab hb (.inl (by omega)) hne

theorem unify_again {m : Mx} (hn : m.n ≤ 16) (ho : One m) : m.unify.1.unify = (m.unify.1, []) := by
  have hw := unify_way hn ho
  refine unify_none fun t f htf hf => ?_
  by_cases h : m.unify.1.row f = []
  · exact .inl h
  · exact .inr ((goes_ov hw.kp.one hf).2 (unify_ov hn ho t f htf hf h))

end Go.Proofs.Ytnffmijanikjgaa
