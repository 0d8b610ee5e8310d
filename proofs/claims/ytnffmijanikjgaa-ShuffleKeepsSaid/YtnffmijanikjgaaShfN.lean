/-
  No more rows are used than were; the jobs are those that were.
-/
import Derived.Test.YtnffmijanikjgaaShfM
namespace Go.Proofs.Ytnffmijanikjgaa
open Go.RowKit Go.Shelf
set_option linter.unusedVariables false

def bit (b : Bool) : Nat := if b then 1 else 0
def cntTo (p : Nat → Bool) : Nat → Nat
  | 0 => 0
  | n + 1 => cntTo p n + bit (p n)

theorem cnt_used (m : Mx) : ∀ k, m.usedTo k = cntTo (fun i => !(m.row i).isEmpty) k
  | 0 => rfl
  | k + 1 => by
    rw [usedTo_succ, cnt_used m k]
    show _ = _ + bit (!(m.row k).isEmpty)
    cases (m.row k).isEmpty <;> rfl

theorem cnt_one (f : Nat) : ∀ n, cntTo (fun i => i == f) n = bit (decide (f < n))
  | 0 => rfl
  | n + 1 => by
    show cntTo _ n + bit (n == f) = _
    rw [cnt_one f n]
    by_cases h1 : f < n
    · rw [show decide (f < n) = true by simpa using h1, show decide (f < n + 1) = true by simp; omega, show (n == f) = false by simp; omega]; rfl
    · by_cases h2 : n = f
      · subst h2; simp [bit]
      · rw [show decide (f < n) = false by simpa using h1, show decide (f < n + 1) = false by simp; omega, show (n == f) = false by simp; omega]; rfl

theorem cnt_le {p q a b : Nat → Bool} : ∀ n, (∀ i, i < n → bit (p i) + bit (a i) ≤ bit (q i) + bit (b i)) → cntTo p n + cntTo a n ≤ cntTo q n + cntTo b n
  | 0, _ => Nat.le_refl _
  | n + 1, h => by
    have h1 := cnt_le n fun i hi => h i (by omega)
    have h2 := h n (by omega)
    show cntTo p n + bit (p n) + (cntTo a n + bit (a n)) ≤ cntTo q n + bit (q n) + (cntTo b n + bit (b n))
    omega

/-- Does anybody stand in it? -/
def Mx.any (m : Mx) (i : Nat) : Bool := !(m.row i).isEmpty
theorem any_iff {m : Mx} {i : Nat} : m.any i = true ↔ ∃ j, j ∈ m.row i := by
  unfold Mx.any
  cases h : m.row i with
  | nil => simp
  | cons j J => simp

/-- One row is left, another one may be new. -/
theorem used_swap {m m' : Mx} (hr : m'.r = m.r) {f t : Nat} (hf : f < m.r) (ht : t < m.r) (h : ∀ i, i < m.r → m'.any i = true → (m.any i = true ∧ i ≠ f) ∨ i = t) (hft : f ≠ t) (hff : m.any f = true) : m'.used ≤ m.used := by
  unfold Mx.used
  rw [cnt_used, cnt_used, hr]
  have h1 := cnt_le (p := fun i => !(m'.row i).isEmpty) (q := fun i => !(m.row i).isEmpty) (a := fun i => i == f) (b := fun i => i == t) m.r fun i hi => by
    show bit (m'.any i) + bit (i == f) ≤ bit (m.any i) + bit (i == t)
    cases hm' : m'.any i with
    | false =>
      by_cases e : i = f
      · rw [e, hff]; simp [bit]
      · rw [show (i == f) = false by simpa using e]; simp [bit]
    | true =>
      rcases h i hi hm' with ⟨h2, h3⟩ | h2
      · rw [h2, show (i == f) = false by simpa using h3]; simp [bit]
      · rw [h2, show (t == f) = false by simp; omega]; simp [bit]
  rw [cnt_one, cnt_one, show decide (f < m.r) = true by simpa using hf, show decide (t < m.r) = true by simpa using ht] at h1
  omega

theorem used_sub {m m' : Mx} (hr : m'.r = m.r) (h : ∀ i, i < m.r → m'.any i = true → m.any i = true) : m'.used ≤ m.used := by
  unfold Mx.used
  rw [cnt_used, cnt_used, hr]
  have h1 := cnt_le (p := fun i => !(m'.row i).isEmpty) (q := fun i => !(m.row i).isEmpty) (a := fun _ => false) (b := fun _ => false) m.r fun i hi => by
    show bit (m'.any i) + bit false ≤ bit (m.any i) + bit false
    cases hm' : m'.any i with
    | false => simp [bit]
    | true => rw [h i hi hm']; exact Nat.le_refl _
  have h2 : ∀ n, cntTo (fun _ => false) n = 0 := by
    intro n
    induction n with
    | zero => rfl
    | succ n ih => show cntTo _ n + bit false = 0; rw [ih]; rfl
  rw [h2] at h1
  omega

/-- Who stands in which row behind several moves. -/
theorem shift_rows {f t : Nat} : ∀ (J : List Nat) {m : Mx}, m.n ≤ 16 → One m → J.Nodup → (∀ j ∈ J, CanGo m j f t) → ∀ i x, i < m.r → x ∈ (m.shift f t J).row i → (x ∈ J ∧ i = t) ∨ (x ∉ J ∧ x ∈ m.row i)
  | [], m, _, _, _, _, i, x, _, hx => .inr ⟨by simp, hx⟩
  | j :: J, m, hn, ho, hd, hc, i, x, hi, hx => by
    rw [List.nodup_cons] at hd
    have h0 := hc j (by simp)
    have hc1 : ∀ j' ∈ J, CanGo (m.mv j f t) j' f t := fun j' hj' => h0.mv hn ho (hc j' (by simp [hj'])) (fun e => hd.1 (e ▸ hj'))
    rcases shift_rows J (by rw [mv_n]; exact hn) (mv_one hn ho h0) hd.2 hc1 i x (by rw [mv_r]; exact hi) hx with ⟨h1, h2⟩ | ⟨h1, h2⟩
    · exact .inl ⟨by simp [h1], h2⟩
    · rcases row_mv hn ho h0 hi h2 with ⟨h3, h4⟩ | ⟨h3, h4⟩
      · exact .inl ⟨by simp [h3], h4⟩
      · exact .inr ⟨by simp [h1, h3], h4⟩

theorem uStep_used {m : Mx} (hn : m.n ≤ 16) (ho : One m) {t f : Nat} {l : List (Nat × Nat × Nat)} (htf : t < f) (hf : f < m.r) : (uStep t (m, l) f).1.used ≤ m.used := by
  unfold uStep
  cases hg : m.goes t (m.row f) with
  | false => rw [if_neg (by simp)]; exact Nat.le_refl _
  | true =>
    rw [if_pos rfl]
    show (m.shift f t (m.row f)).used ≤ m.used
    have hrows := shift_rows _ hn ho (m.row_nodup f) (row_canGo ho hf (by omega) (by omega) hg fun j hj => hj)
    by_cases hff : m.any f = true
    · refine used_swap (shift_r _ _ _ _) hf (show t < m.r by omega) (fun i hi ha => ?_) (by omega) hff
      obtain ⟨x, hx⟩ := any_iff.1 ha
      rcases hrows i x hi hx with ⟨_, h⟩ | ⟨h1, h2⟩
      · exact .inr h
      · exact .inl ⟨any_iff.2 ⟨x, h2⟩, fun e => h1 (e ▸ h2)⟩
    · have : m.row f = [] := by
        cases h : m.row f with
        | nil => rfl
        | cons j J => exact absurd (any_iff.2 ⟨j, by rw [h]; simp⟩) hff
      rw [this]
      exact Nat.le_refl _

theorem uAt_used {m : Mx} (hn : m.n ≤ 16) (ho : One m) : ∀ t, t ≤ m.r → ∀ q, (t + 1 + q ≤ m.r ∨ q = 0) → (m.uAt t q).1.used ≤ m.used
  | t, ht, q + 1, hq => by
    have hw := uAt_way hn ho t q (by omega)
    have ih := uAt_used hn ho t ht q (by omega)
    rw [uAt_succ]
    exact Nat.le_trans (uStep_used (m := (m.uAt t q).1) (l := (m.uAt t q).2) (by rw [hw.kp.n]; exact hn) hw.kp.one (by omega) (by rw [hw.kp.r]; omega)) ih
  | 0, _, 0, _ => Nat.le_refl _
  | t + 1, ht, 0, _ => by
    have ih := uAt_used hn ho t (by omega) (m.r - (t + 1)) (by omega)
    rwa [uAt_row m t (by omega)] at ih

theorem unify_used {m : Mx} (hn : m.n ≤ 16) (ho : One m) : m.unify.1.used ≤ m.used := by
  have h := uAt_used hn ho m.r (Nat.le_refl _) 0 (.inr rfl)
  rwa [uAt_last] at h

/-- Within a row that is gone through, job by job: what becomes of the rows, m0 being what was at its beginning. -/
structure RIn (m0 m : Mx) (f : Nat) (J : List Nat) : Prop where
  r : m.r = m0.r
  n : m.n = m0.n
  one : One m
  nodes : ∀ j, m.nodes j = m0.nodes j
  -- who stands ahead stood there, or is of this row
  from_ : ∀ i, i < m0.r → ∀ x, x ∈ m.row i → x ∈ m0.row i ∨ (x ∈ m0.row f ∧ x ∉ J ∧ i < f)
  here : ∀ x ∈ J, x ∈ m.row f

theorem RIn.led {m0 m : Mx} (hn : m0.n ≤ 16) {f j : Nat} {J : List Nat} (hd : (j :: J).Nodup) (hf : f < m0.r) (h : RIn m0 m f (j :: J)) : RIn m0 (m.led f j).1 f J := by
  rw [List.nodup_cons] at hd
  have hn1 : m.n ≤ 16 := by rw [h.n]; exact hn
  have hf1 : f < m.r := by rw [h.r]; exact hf
  have hj := h.here j (by simp)
  unfold Mx.led
  cases ha : m.ahead [j] f with
  | none =>
    refine ⟨h.r, h.n, h.one, h.nodes, fun i hi x hx => ?_, fun x hx => h.here x (by simp [hx])⟩
    rcases h.from_ i hi x hx with h1 | ⟨h1, h2, h3⟩
    · exact .inl h1
    · exact .inr ⟨h1, fun e => h2 (by simp [e]), h3⟩
  | some t =>
    have ⟨h1, h2, _⟩ := ahead_some ha
    have hc := row_canGo h.one hf1 (by omega) (by omega) h2 (fun x hx => by rw [List.mem_singleton] at hx; rw [hx]; exact hj) j (by simp)
    refine ⟨(mv_r _ _ _ _).trans h.r, (mv_n _ _ _ _).trans h.n, mv_one hn1 h.one hc, fun x => (mv_nodes hn1 h.one hc x).trans (h.nodes x), fun i hi x hx => ?_, fun x hx => ?_⟩
    · rcases row_mv hn1 h.one hc (by rw [h.r]; exact hi) hx with ⟨e1, e2⟩ | ⟨e1, hx⟩
      · right
        refine ⟨?_, by rw [e1]; exact hd.1, by omega⟩
        rcases h.from_ f hf j hj with h5 | ⟨h5, _⟩
        · rw [e1]; exact h5
        · rw [e1]; exact h5
      · rcases h.from_ i hi x hx with h5 | ⟨h5, h6, h7⟩
        · exact .inl h5
        · exact .inr ⟨h5, fun e => h6 (by simp [e]), h7⟩
    · have hxj : x ≠ j := fun e => hd.1 (e ▸ hx)
      have hx1 := row_own.1 (h.here x (by simp [hx]))
      refine row_own.2 ⟨hx1.1, ?_⟩
      show (m.mv j f t).own f x ≠ []
      rw [mv_own hn1 h.one hc hf1 hx1.1, if_neg hxj]
      exact hx1.2

/-- If some row ahead is free, each goes, at the farthest into the first one that is. -/
theorem led_goes {m0 m : Mx} (hn : m0.n ≤ 16) (ho0 : One m0) {f j e : Nat} {J : List Nat} (hf : f < m0.r) (h : RIn m0 m f (j :: J)) (hef : e < f) (he : m0.row e = []) : ∃ t, t ≤ e ∧ m.ahead [j] f = some t := by
  have hgo : m.goes e [j] = true := by
    rw [goes_one]
    intro k hk
    apply Classical.byContradiction
    intro hne
    have hkn := nodes_lt k hk
    have hx : m.c (16 * e + k) ∈ m.row e := Mx.row_mem.2 ⟨k, hkn, hne, rfl⟩
    rcases h.from_ e (by omega) _ hx with h1 | ⟨h1, h2, _⟩
    · rw [he] at h1; cases h1
    · -- both are of row f, and have the node k there
      have hxj : m.c (16 * e + k) ≠ j := fun e1 => h2 (by simp [e1])
      have hw1 := (h.one.row_where (by rw [h.r]; omega) hx).1
      have hkx : k ∈ m.nodes (m.c (16 * e + k)) := by rw [Mx.nodes_of hw1]; exact own_mem.2 ⟨hkn, rfl⟩
      rw [h.nodes, Mx.nodes_of (ho0.row_where hf h1).1] at hkx
      have hj0 : j ∈ m0.row f := by
        rcases h.from_ f hf j (h.here j (by simp)) with h5 | ⟨h5, _⟩ <;> exact h5
      rw [h.nodes, Mx.nodes_of (ho0.row_where hf hj0).1] at hk
      have a1 := (own_mem.1 hkx).2
      have a2 := (own_mem.1 hk).2
      exact hxj (a1.symm.trans a2)
  cases ha : m.ahead [j] f with
  | none =>
    have := ahead_none ha e hef
    rw [hgo] at this; cases this
  | some t =>
    refine ⟨t, ?_, rfl⟩
    have ⟨_, _, h3⟩ := ahead_some ha
    rcases Nat.lt_or_ge e t with h4 | h4
    · have := h3 e h4
      rw [hgo] at this; cases this
    · exact h4

/-- And row f is left by those who were gone through. -/
theorem led_out {m0 : Mx} (hn : m0.n ≤ 16) (ho0 : One m0) {f e : Nat} (hf : f < m0.r) (hef : e < f) (he : m0.row e = []) (hmin : ∀ i, i < e → m0.row i ≠ []) : ∀ (J : List Nat) {st : Mx × List (Nat × Nat × Nat)}, J.Nodup → RIn m0 st.1 f J → (∀ x ∈ st.1.row f, x ∈ J) → (∀ i, i < m0.r → i ≠ f → st.1.any i = true → m0.any i = true ∨ i = e) →
    (J.foldl (rJob f) st).1.r = m0.r ∧ (J.foldl (rJob f) st).1.row f = [] ∧ ∀ i, i < m0.r → i ≠ f → (J.foldl (rJob f) st).1.any i = true → m0.any i = true ∨ i = e
  | [], st, _, h, hl, ha => ⟨h.r, by
      cases hr : st.1.row f with
      | nil => exact hr
      | cons x X => exact absurd (hl x (by rw [hr]; simp)) (by simp), ha⟩
  | j :: J, st, hd, h, hl, ha => by
    rw [List.foldl_cons, rJob_led]
    have hd2 := hd
    rw [List.nodup_cons] at hd2
    have hn1 : st.1.n ≤ 16 := by rw [h.n]; exact hn
    obtain ⟨t, hte, hah⟩ := led_goes hn ho0 hf h hef he
    have ⟨h1, h2, _⟩ := ahead_some hah
    have hj := h.here j (by simp)
    have hf1 : f < st.1.r := by rw [h.r]; exact hf
    have hc := row_canGo h.one hf1 (by omega) (by omega) h2 (fun x hx => by rw [List.mem_singleton] at hx; rw [hx]; exact hj) j (by simp)
    have hled : st.1.led f j = (st.1.mv j f t, [(j, f, t)]) := by unfold Mx.led; rw [hah]
    have hR := h.led hn hd hf
    refine led_out hn ho0 hf hef he hmin J (st := ((st.1.led f j).1, st.2 ++ (st.1.led f j).2)) hd2.2 hR (fun x hx => ?_) (fun i hi hif ha2 => ?_)
    · rw [hled] at hx
      rcases row_mv hn1 h.one hc hf1 hx with ⟨_, e2⟩ | ⟨e1, hx⟩
      · omega
      · rcases List.mem_cons.1 (hl x hx) with h5 | h5
        · exact absurd h5 e1
        · exact h5
    · obtain ⟨x, hx⟩ := any_iff.1 ha2
      rw [hled] at hx
      rcases row_mv hn1 h.one hc (by rw [h.r]; exact hi) hx with ⟨_, e2⟩ | ⟨_, hx⟩
      · rcases Nat.lt_or_ge i e with h5 | h5
        · left
          cases hr : m0.row i with
          | nil => exact absurd hr (hmin i h5)
          | cons y Y => exact any_iff.2 ⟨y, by rw [hr]; simp⟩
        · right; omega
      · exact ha i hi hif (any_iff.2 ⟨x, hx⟩)

theorem RIn.fold {m0 : Mx} (hn : m0.n ≤ 16) {f : Nat} (hf : f < m0.r) : ∀ (J : List Nat) {st : Mx × List (Nat × Nat × Nat)}, J.Nodup → RIn m0 st.1 f J → RIn m0 (J.foldl (rJob f) st).1 f []
  | [], _, _, h => h
  | j :: J, st, hd, h => by
    rw [List.foldl_cons, rJob_led]
    exact RIn.fold hn hf J (List.nodup_cons.1 hd).2 (h.led hn hd hf)

theorem rRow_used {m : Mx} {l : List (Nat × Nat × Nat)} (hn : m.n ≤ 16) (ho : One m) {f : Nat} (hf : f < m.r) : (rRow (m, l) f).1.used ≤ m.used := by
  show ((m.row f).foldl (rJob f) (m, l)).1.used ≤ m.used
  have h0 : RIn m m f (m.row f) := ⟨rfl, rfl, ho, fun _ => rfl, fun i _ x hx => .inl hx, fun x hx => hx⟩
  have hfold := RIn.fold hn hf (m.row f) (st := (m, l)) (m.row_nodup f) h0
  by_cases hex : ∃ e, e < f ∧ m.row e = []
  · -- the least
    have hmin : ∃ e, e < f ∧ m.row e = [] ∧ ∀ i, i < e → m.row i ≠ [] := by
      obtain ⟨e, h1, h2⟩ := hex
      induction e using Nat.strongRecOn with
      | ind e ih =>
        by_cases h3 : ∃ i, i < e ∧ m.row i = []
        · obtain ⟨i, h4, h5⟩ := h3
          exact ih i h4 (by omega) h5
        · exact ⟨e, h1, h2, fun i hi h => h3 ⟨i, hi, h⟩⟩
    obtain ⟨e, hef, he, hmn⟩ := hmin
    cases hff : m.any f with
    | false =>
      have : m.row f = [] := by
        cases h : m.row f with
        | nil => rfl
        | cons j J => rw [any_iff.2 ⟨j, by rw [h]; simp⟩] at hff; cases hff
      rw [this]
      exact Nat.le_refl _
    | true =>
      obtain ⟨hr, hrow, hany⟩ := led_out hn ho hf hef he hmn (m.row f) (st := (m, l)) (m.row_nodup f) h0 (fun x hx => hx) (fun i _ _ ha => .inl ha)
      refine used_swap hr hf (show e < m.r by omega) (fun i hi ha => ?_) (by omega) hff
      by_cases e1 : i = f
      · subst e1
        obtain ⟨x, hx⟩ := any_iff.1 ha
        rw [hrow] at hx; cases hx
      · rcases hany i hi e1 ha with h | h
        · exact .inl ⟨h, e1⟩
        · exact .inr h
  · refine used_sub hfold.r fun i hi ha => ?_
    obtain ⟨x, hx⟩ := any_iff.1 ha
    rcases hfold.from_ i hi x hx with h1 | ⟨h1, _, h3⟩
    · exact any_iff.2 ⟨x, h1⟩
    · cases hr : m.row i with
      | nil => exact absurd ⟨i, h3, hr⟩ hex
      | cons y Y => exact any_iff.2 ⟨y, by rw [hr]; simp⟩

theorem repack_used {m : Mx} (hn : m.n ≤ 16) (ho : One m) : m.repack.1.used ≤ m.used := by
  have h : ∀ f, f ≤ m.r → (m.rTo f).1.used ≤ m.used := by
    intro f
    induction f with
    | zero => intro _; exact Nat.le_refl _
    | succ f ih =>
      intro hf
      have hw := rTo_way hn ho f (by omega)
      have h1 := rRow_used (m := (m.rTo f).1) (l := (m.rTo f).2) (by rw [hw.kp.n]; exact hn) hw.kp.one (f := f) (by rw [hw.kp.r]; omega)
      rw [rTo_succ]
      exact Nat.le_trans h1 (ih (by omega))
  have := h m.r (Nat.le_refl _)
  rwa [rTo_last] at this

/-- The jobs, told by where they stand. -/
theorem jobs_iff {m : Mx} (ho : One m) {j : Nat} : j ∈ m.jobs ↔ (m.where j).isSome = true := by
  rw [Mx.jobs_mem]
  constructor
  · rintro ⟨i, hi, h⟩
    rw [(ho.row_where hi h).1]; rfl
  · intro h
    obtain ⟨i, hi⟩ := Option.isSome_iff_exists.1 h
    exact ⟨i, ((where_iff ho).1 hi).2.1, ho.where_row hi⟩

theorem upTo_nodup {m : Mx} (ho : One m) : (m.upTo m.r).Nodup := by
  unfold Mx.upTo
  refine flat_nodup _ _ List.nodup_range (fun i _ => m.row_nodup i) fun a ha b hb y h1 h2 => ?_
  rw [List.mem_range] at ha hb
  have e1 := (ho.row_where ha h1).1
  have e2 := (ho.row_where hb h2).1
  rw [e1] at e2
  exact Option.some.inj e2

theorem le_tr (a b c : Nat) (h1 : (!ltN b a) = true) (h2 : (!ltN c b) = true) : (!ltN c a) = true := by
  simp only [ltN, Bool.not_eq_true', decide_eq_false_iff_not] at *; omega
theorem le_to (a b : Nat) : ((!ltN b a) || (!ltN a b)) = true := by
  simp only [ltN, Bool.or_eq_true, Bool.not_eq_true', decide_eq_false_iff_not]; omega
theorem le_an (a b : Nat) (h1 : (!ltN b a) = true) (h2 : (!ltN a b) = true) : a = b := by
  simp only [ltN, Bool.not_eq_true', decide_eq_false_iff_not] at *; omega

theorem jobs_same {m m' : Mx} (h : Kept m m') (ho : One m) : m'.jobs = m.jobs := by
  have hp : ∀ (x : Mx), (x.jobs).Pairwise (fun a b => (!ltN b a) = true) := fun x => by
    unfold Mx.jobs rising
    exact List.pairwise_mergeSort (le := fun a b => !ltN b a) le_tr le_to _
  have hnd : ∀ (x : Mx), One x → x.jobs.Nodup := fun x hx => by
    unfold Mx.jobs rising
    exact (List.mergeSort_perm _ _).nodup_iff.2 (upTo_nodup hx)
  refine List.Perm.eq_of_pairwise (le := fun a b => (!ltN b a) = true) (fun a b _ _ h1 h2 => le_an a b h1 h2) (hp m') (hp m) ?_
  refine (List.perm_ext_iff_of_nodup (hnd m' h.one) (hnd m ho)).2 fun j => ?_
  rw [jobs_iff h.one, jobs_iff ho, h.some]

theorem Kept.trans {a b c : Mx} (h : Kept a b) (k : Kept b c) : Kept a c := ⟨k.r.trans h.r, k.n.trans h.n, k.d.trans h.d, k.one, fun j => (k.nodes j).trans (h.nodes j), fun j => (k.some j).trans (h.some j)⟩

end Go.Proofs.Ytnffmijanikjgaa
