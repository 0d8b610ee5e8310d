/-
  A profile, plainly: which cells are free, where an ask starts, which cells it takes; what is reserved; a plan.
-/
import Derived.Test.YtecojmpiaaehlaaKit
namespace Go.Proofs.Ytecojmpiaaehlaa
set_option linter.unusedVariables false

def topN : Nat := 1099511627776
/-- A time, within its bounds. -/
def bnd (t : Int) : Nat := min t.toNat topN
theorem bnd_le (t : Int) : bnd t ≤ topN := Nat.min_le_right _ _
theorem bnd_nat {t : Nat} (h : t ≤ topN) : bnd (t : Int) = t := by unfold bnd; rw [Int.toNat_natCast]; omega
/-- Two times together. -/
def addT (a b : Int) : Nat := min (bnd a + bnd b) topN
theorem addT_le (a b : Int) : addT a b ≤ topN := Nat.min_le_right _ _

/-- How many cells are free from a time on. -/
def cnt (l : List Nat) (t : Nat) : Nat := (l.filter fun c => decide (c ≤ t)).length
theorem cnt_len (l : List Nat) (t : Nat) : cnt l t ≤ l.length := List.length_filter_le _ _
def lessC (l : List Nat) (t : Nat) : Nat := (l.filter fun c => decide (c < t)).length
def eqC (l : List Nat) (t : Nat) : Nat := (l.filter fun c => c == t).length
theorem cnt_cons (c : Nat) (l : List Nat) (t : Nat) : cnt (c :: l) t = (if c ≤ t then 1 else 0) + cnt l t := by
  unfold cnt
  by_cases h : c ≤ t
  · rw [List.filter_cons_of_pos (by simpa using h), if_pos h, List.length_cons]; omega
  · rw [List.filter_cons_of_neg (by simpa using h), if_neg h]; omega
theorem lessC_cons (c : Nat) (l : List Nat) (t : Nat) : lessC (c :: l) t = (if c < t then 1 else 0) + lessC l t := by
  unfold lessC
  by_cases h : c < t
  · rw [List.filter_cons_of_pos (by simpa using h), if_pos h, List.length_cons]; omega
  · rw [List.filter_cons_of_neg (by simpa using h), if_neg h]; omega
theorem eqC_cons (c : Nat) (l : List Nat) (t : Nat) : eqC (c :: l) t = (if c = t then 1 else 0) + eqC l t := by
  unfold eqC
  by_cases h : c = t
  · rw [List.filter_cons_of_pos (by simpa using h), if_pos h, List.length_cons]; omega
  · rw [List.filter_cons_of_neg (by simpa using h), if_neg h]; omega
theorem cnt_split (l : List Nat) (t : Nat) : cnt l t = lessC l t + eqC l t := by
  induction l with
  | nil => rfl
  | cons c l ih =>
    rw [cnt_cons, lessC_cons, eqC_cons, ih]
    by_cases h1 : c < t
    · rw [if_pos (by omega), if_pos h1, if_neg (by omega)]; omega
    · by_cases h2 : c = t
      · rw [if_pos (by omega), if_neg h1, if_pos h2]; omega
      · rw [if_neg (by omega), if_neg h1, if_neg h2]; omega
theorem cnt_mono (l : List Nat) {t u : Nat} (h : t ≤ u) : cnt l t ≤ cnt l u := by
  induction l with
  | nil => exact Nat.le_refl _
  | cons c l ih =>
    rw [cnt_cons, cnt_cons]
    by_cases h1 : c ≤ t
    · rw [if_pos h1, if_pos (by omega)]; omega
    · rw [if_neg h1]; omega
theorem less_cnt (l : List Nat) {t u : Nat} (h : ∀ c ∈ l, c < t → c ≤ u) : lessC l t ≤ cnt l u := by
  induction l with
  | nil => exact Nat.le_refl _
  | cons c l ih =>
    have := ih fun x hx => h x (List.mem_cons_of_mem _ hx)
    have hc := h c (by simp)
    rw [lessC_cons, cnt_cons]
    by_cases h1 : c < t
    · rw [if_pos h1, if_pos (hc h1)]; omega
    · rw [if_neg h1]; omega

/-- The least of some numbers. -/
def minO : List Nat → Option Nat
  | [] => none
  | c :: l => match minO l with
    | none => some c
    | some m => some (min c m)
theorem minO_none {l : List Nat} : minO l = none ↔ l = [] := by
  cases l with
  | nil => simp [minO]
  | cons c l =>
    constructor
    · intro h
      unfold minO at h
      split at h <;> cases h
    · intro h; cases h
theorem minO_some : ∀ {l : List Nat} {m : Nat}, minO l = some m ↔ m ∈ l ∧ ∀ c ∈ l, m ≤ c
  | [], m => by simp [minO]
  | c :: l, m => by
    unfold minO
    cases h : minO l with
    | none =>
      rw [minO_none.1 h]
      simp only [Option.some.injEq, List.mem_singleton]
      constructor
      · rintro rfl; exact ⟨rfl, fun x hx => by omega⟩
      · rintro ⟨h, _⟩; exact h.symm
    | some k =>
      obtain ⟨h1, h2⟩ := minO_some.1 h
      simp only [Option.some.injEq, List.mem_cons]
      constructor
      · rintro rfl
        refine ⟨?_, fun x hx => ?_⟩
        · rcases Nat.le_total c k with hc | hc
          · rw [Nat.min_eq_left hc]; exact .inl rfl
          · rw [Nat.min_eq_right hc]; exact .inr h1
        · rcases hx with rfl | hx
          · exact Nat.min_le_left _ _
          · exact Nat.le_trans (Nat.min_le_right _ _) (h2 x hx)
      · rintro ⟨h3, h4⟩
        have ha := h4 c (.inl rfl)
        have hb := h4 k (.inr h1)
        rcases h3 with rfl | h3
        · omega
        · have := h2 m h3; omega

/-- When k cells of a row are free. -/
def rowT (l : List Nat) (k : Nat) : Option Nat := minO (l.filter fun c => decide (k ≤ cnt l c))
theorem rowT_some {l : List Nat} {k t : Nat} : rowT l k = some t ↔ (t ∈ l ∧ k ≤ cnt l t) ∧ ∀ c ∈ l, k ≤ cnt l c → t ≤ c := by
  unfold rowT
  rw [minO_some]
  simp only [List.mem_filter, decide_eq_true_eq]
  constructor
  · rintro ⟨h1, h2⟩; exact ⟨h1, fun c hc hk => h2 c ⟨hc, hk⟩⟩
  · rintro ⟨h1, h2⟩; exact ⟨h1, fun c hc => h2 c hc.1 hc.2⟩
theorem rowT_none {l : List Nat} {k : Nat} : rowT l k = none ↔ ∀ c ∈ l, cnt l c < k := by
  unfold rowT
  rw [minO_none, List.filter_eq_nil_iff]
  simp

/-- A time that is better than what was found. -/
def better (s : Option (Nat × Nat)) (t i : Nat) : Option (Nat × Nat) := match s with
  | none => some (t, i)
  | some (b, r) => if t < b then some (t, i) else some (b, r)
theorem better_min (s : Option (Nat × Nat)) (a b i : Nat) : better (better s a i) b i = better s (min a b) i := by
  rcases s with _ | ⟨c, r⟩
  · unfold better
    by_cases h : b < a
    · simp [h, Nat.min_eq_right (Nat.le_of_lt h)]
    · simp [h, Nat.min_eq_left (Nat.le_of_not_lt h)]
  · unfold better
    by_cases h1 : a < c
    · by_cases h2 : b < a
      · simp [h1, h2, Nat.min_eq_right (Nat.le_of_lt h2)]; omega
      · simp [h1, h2, Nat.min_eq_left (Nat.le_of_not_lt h2)]
    · by_cases h2 : b < c
      · simp [h1, h2, show min a b = b by omega]
      · simp [h1, h2, show ¬ min a b < c by omega]
theorem better_ne (s : Option (Nat × Nat)) (t i : Nat) : better s t i ≠ none := by
  unfold better
  split
  · simp
  · split <;> simp
/-- A row is looked at. -/
def rowS (k : Nat) (s : Option (Nat × Nat)) (l : List Nat) (i : Nat) : Option (Nat × Nat) := match rowT l k with
  | none => s
  | some t => better s t i
/-- Cell by cell. -/
def cellS (k : Nat) (l : List Nat) (i : Nat) (s : Option (Nat × Nat)) (c : Nat) : Option (Nat × Nat) := if k ≤ cnt l c then better s c i else s
theorem cells_fold (k : Nat) (l : List Nat) (i : Nat) : ∀ (L : List Nat) (s : Option (Nat × Nat)), L.foldl (cellS k l i) s = match minO (L.filter fun c => decide (k ≤ cnt l c)) with
    | none => s
    | some t => better s t i
  | [], s => rfl
  | c :: L, s => by
    rw [List.foldl_cons, cells_fold k l i L]
    unfold cellS
    by_cases h : k ≤ cnt l c
    · rw [if_pos h, List.filter_cons_of_pos (by simpa using h)]
      simp only [minO]
      cases hm : minO (L.filter fun c => decide (k ≤ cnt l c)) with
      | none => rfl
      | some m => exact better_min s c m i
    · rw [if_neg h, List.filter_cons_of_neg (by simpa using h)]
theorem cells_row (k : Nat) (l : List Nat) (i : Nat) (s : Option (Nat × Nat)) : l.foldl (cellS k l i) s = rowS k s l i := cells_fold k l i l s

/-- The best of the first n rows. -/
def bestTo (p : List (List Nat)) (k n : Nat) : Option (Nat × Nat) := (List.range n).foldl (fun s i => rowS k s (p.getD i []) i) none
theorem bestTo_succ (p : List (List Nat)) (k n : Nat) : bestTo p k (n + 1) = rowS k (bestTo p k n) (p.getD n []) n := by
  unfold bestTo; rw [List.range_succ, List.foldl_append]; rfl
theorem bestTo_some {p : List (List Nat)} {k : Nat} : ∀ {n t i : Nat}, bestTo p k n = some (t, i) ↔ i < n ∧ rowT (p.getD i []) k = some t ∧ (∀ j u, j < n → rowT (p.getD j []) k = some u → t ≤ u) ∧ ∀ j u, j < i → rowT (p.getD j []) k = some u → t < u
  | 0, t, i => by simp [bestTo]
  | n + 1, t, i => by
    rw [bestTo_succ]
    unfold rowS
    cases hr : rowT (p.getD n []) k with
    | none =>
      show bestTo p k n = some (t, i) ↔ _
      rw [bestTo_some]
      constructor
      · rintro ⟨h1, h2, h3, h4⟩
        refine ⟨by omega, h2, fun j u hj hu => ?_, h4⟩
        by_cases e : j = n
        · rw [e, hr] at hu; cases hu
        · exact h3 j u (by omega) hu
      · rintro ⟨h1, h2, h3, h4⟩
        have : i ≠ n := fun e => by rw [e, hr] at h2; cases h2
        exact ⟨by omega, h2, fun j u hj hu => h3 j u (by omega) hu, h4⟩
    | some tn =>
      show better (bestTo p k n) tn n = some (t, i) ↔ _
      cases hb : bestTo p k n with
      | none =>
        have hno : ∀ j u, j < n → rowT (p.getD j []) k = some u → False := by
          intro j u hj hu
          clear hr
          have : ∀ m, j < m → m ≤ n → bestTo p k m ≠ none := by
            intro m hjm _
            induction m with
            | zero => omega
            | succ m ih =>
              rw [bestTo_succ]
              by_cases e : j = m
              · unfold rowS; rw [← e, hu]
                exact better_ne _ _ _
              · have := ih (by omega) (by omega)
                unfold rowS
                split
                · exact this
                · exact better_ne _ _ _
          exact this n hj (Nat.le_refl _) hb
        unfold better
        simp only [Option.some.injEq, Prod.mk.injEq]
        constructor
        · rintro ⟨rfl, rfl⟩
          refine ⟨by omega, hr, fun j u hj hu => ?_, fun j u hj hu => (hno j u hj hu).elim⟩
          by_cases e : j = n
          · rw [e, hr] at hu; cases hu; exact Nat.le_refl _
          · exact (hno j u (by omega) hu).elim
        · rintro ⟨h1, h2, h3, h4⟩
          by_cases e : i = n
          · rw [e, hr] at h2; cases h2; exact ⟨rfl, e.symm⟩
          · exact (hno i t (by omega) h2).elim
      | some bb =>
        obtain ⟨b, r⟩ := bb
        obtain ⟨g1, g2, g3, g4⟩ := bestTo_some.1 hb
        unfold better
        by_cases hlt : tn < b
        · simp only [hlt, if_true, Option.some.injEq, Prod.mk.injEq]
          constructor
          · rintro ⟨rfl, rfl⟩
            refine ⟨by omega, hr, fun j u hj hu => ?_, fun j u hj hu => ?_⟩
            · by_cases e : j = n
              · rw [e, hr] at hu; cases hu; exact Nat.le_refl _
              · have := g3 j u (by omega) hu; omega
            · have := g3 j u (by omega) hu; omega
          · rintro ⟨h1, h2, h3, h4⟩
            by_cases e : i = n
            · rw [e, hr] at h2; cases h2; exact ⟨rfl, e.symm⟩
            · have a1 := h3 n tn (by omega) hr
              have a2 := g3 i t (by omega) h2
              omega
        · simp only [hlt, if_false, Option.some.injEq, Prod.mk.injEq]
          constructor
          · rintro ⟨rfl, rfl⟩
            refine ⟨by omega, g2, fun j u hj hu => ?_, g4⟩
            by_cases e : j = n
            · rw [e, hr] at hu; cases hu; omega
            · exact g3 j u (by omega) hu
          · rintro ⟨h1, h2, h3, h4⟩
            have a1 := h3 r b (by omega) g2
            by_cases e : i = n
            · subst e
              rw [hr] at h2; cases h2
              have := h4 r b (by omega) g2
              omega
            · have a2 := g3 i t (by omega) h2
              have e1 : t = b := by omega
              refine ⟨e1.symm, ?_⟩
              rcases Nat.lt_trichotomy i r with h5 | h5 | h5
              · have := g4 i t h5 h2; omega
              · exact h5.symm
              · have := h4 r b h5 g2; omega
theorem bestTo_none {p : List (List Nat)} {k n : Nat} : bestTo p k n = none ↔ ∀ j, j < n → rowT (p.getD j []) k = none := by
  induction n with
  | zero => simp [bestTo]
  | succ n ih =>
    rw [bestTo_succ]
    unfold rowS
    cases hr : rowT (p.getD n []) k with
    | none =>
      show bestTo p k n = none ↔ _
      rw [ih]
      constructor
      · intro h j hj
        by_cases e : j = n
        · rw [e]; exact hr
        · exact h j (by omega)
      · intro h j hj; exact h j (by omega)
    | some t =>
      constructor
      · intro h
        exfalso
        revert h
        show better _ _ _ = none → False
        unfold better
        split
        · intro h; cases h
        · split <;> (intro h; cases h)
      · intro h
        have := h n (by omega)
        rw [hr] at this; cases this

/-- Of the first q cells how many are free just at t. -/
def eqTo (l : List Nat) (t q : Nat) : Nat := eqC (l.take q) t
/-- Is a cell taken by who takes k cells at t? -/
def pickB (l : List Nat) (k t q : Nat) : Bool := decide (l.getD q 0 < t) || (l.getD q 0 == t && decide (eqTo l t q < k - lessC l t))
def selTo (l : List Nat) (k t q : Nat) : List Nat := (List.range q).filter (pickB l k t)
def sel (l : List Nat) (k t : Nat) : List Nat := selTo l k t l.length
theorem selTo_succ (l : List Nat) (k t q : Nat) : selTo l k t (q + 1) = if pickB l k t q then selTo l k t q ++ [q] else selTo l k t q := by
  unfold selTo
  rw [List.range_succ, List.filter_append]
  cases h : pickB l k t q with
  | true => simp [h]
  | false => simp [h]
theorem take_snoc_nat (l : List Nat) {q : Nat} (h : q < l.length) : l.take (q + 1) = l.take q ++ [l.getD q 0] := by
  rw [List.take_succ_eq_append_getElem h]
  simp [List.getD_eq_getElem?_getD, List.getElem?_eq_getElem h]
theorem eqC_append (a b : List Nat) (t : Nat) : eqC (a ++ b) t = eqC a t + eqC b t := by unfold eqC; rw [List.filter_append, List.length_append]
theorem lessC_append (a b : List Nat) (t : Nat) : lessC (a ++ b) t = lessC a t + lessC b t := by unfold lessC; rw [List.filter_append, List.length_append]
theorem eqTo_succ (l : List Nat) (t : Nat) {q : Nat} (h : q < l.length) : eqTo l t (q + 1) = eqTo l t q + if l.getD q 0 = t then 1 else 0 := by
  unfold eqTo
  rw [take_snoc_nat l h, eqC_append, eqC_cons]
  show _ + (_ + 0) = _
  rw [Nat.add_zero]
theorem lessTo_succ (l : List Nat) (t : Nat) {q : Nat} (h : q < l.length) : lessC (l.take (q + 1)) t = lessC (l.take q) t + if l.getD q 0 < t then 1 else 0 := by
  rw [take_snoc_nat l h, lessC_append, lessC_cons]
  show _ + (_ + 0) = _
  rw [Nat.add_zero]
theorem selTo_len (l : List Nat) (k t : Nat) : ∀ q, q ≤ l.length → (selTo l k t q).length = lessC (l.take q) t + min (k - lessC l t) (eqTo l t q)
  | 0, _ => by simp [selTo, lessC, eqTo, eqC]
  | q + 1, h => by
    have ih := selTo_len l k t q (by omega)
    rw [selTo_succ, eqTo_succ l t (by omega), lessTo_succ l t (by omega)]
    unfold pickB
    generalize l.getD q 0 = x at *
    by_cases h1 : x < t
    · rw [if_pos (by simp [h1]), if_pos h1, if_neg (by omega), List.length_append, ih]
      simp only [List.length_cons, List.length_nil]
      omega
    · by_cases h2 : x = t
      · by_cases h3 : eqTo l t q < k - lessC l t
        · rw [if_pos (by simp [h2, h3]), if_neg h1, if_pos h2, List.length_append, ih]
          simp only [List.length_cons, List.length_nil]
          omega
        · rw [if_neg (by simp [h2, h3]), if_neg h1, if_pos h2, ih]
          omega
      · rw [if_neg (by simp [h1, h2]), if_neg h1, if_neg h2, ih]
        omega
theorem max_ex : ∀ {l : List Nat}, l ≠ [] → ∃ m ∈ l, ∀ c ∈ l, c ≤ m
  | [c], _ => ⟨c, by simp, by simp⟩
  | c :: d :: l, _ => by
    obtain ⟨m, h1, h2⟩ := max_ex (l := d :: l) (by simp)
    by_cases h : m ≤ c
    · refine ⟨c, by simp, fun x hx => ?_⟩
      rcases List.mem_cons.1 hx with rfl | hx
      · exact Nat.le_refl _
      · exact Nat.le_trans (h2 x hx) h
    · refine ⟨m, List.mem_cons_of_mem _ h1, fun x hx => ?_⟩
      rcases List.mem_cons.1 hx with rfl | hx
      · omega
      · exact h2 x hx
/-- Fewer are free ahead of that time. -/
theorem less_lt {l : List Nat} {k t : Nat} (hk : 1 ≤ k) (h : rowT l k = some t) : lessC l t < k := by
  obtain ⟨⟨h1, h2⟩, h3⟩ := rowT_some.1 h
  rcases Nat.lt_or_ge (lessC l t) k with h4 | h4
  · exact h4
  · exfalso
    have hne : (l.filter fun c => decide (c < t)) ≠ [] := fun e => by
      unfold lessC at h4; rw [e] at h4; simp at h4; omega
    obtain ⟨m, hm1, hm2⟩ := max_ex hne
    rw [List.mem_filter, decide_eq_true_eq] at hm1
    have := less_cnt l (t := t) (u := m) fun c hc hlt => hm2 c (List.mem_filter.2 ⟨hc, by simpa using hlt⟩)
    have := h3 m hm1.1 (by omega)
    omega
theorem sel_len {l : List Nat} {k t : Nat} (hk : 1 ≤ k) (h : rowT l k = some t) : (sel l k t).length = k := by
  have h1 := less_lt hk h
  have h2 := (rowT_some.1 h).1.2
  rw [cnt_split] at h2
  unfold sel
  rw [selTo_len l k t l.length (Nat.le_refl _), List.take_length]
  unfold eqTo
  rw [List.take_length]
  omega

/-- Sooner, or as soon and ahead of it. -/
def Lo (l : List Nat) (a b : Nat) : Prop := l.getD a 0 < l.getD b 0 ∨ (l.getD a 0 = l.getD b 0 ∧ a < b)
def IsLow (l : List Nat) (S : Nat → Bool) : Prop := ∀ a b, a < l.length → b < l.length → S b = true → Lo l a b → S a = true
def cntS (n : Nat) (S : Nat → Bool) : Nat := ((List.range n).filter S).length
theorem filter_lt {p q : Nat → Bool} : ∀ {L : List Nat} {a : Nat}, (∀ x ∈ L, p x = true → q x = true) → a ∈ L → q a = true → p a = false → (L.filter p).length < (L.filter q).length
  | [], a, _, h, _, _ => by cases h
  | c :: L, a, h1, h2, h3, h4 => by
    have hle : ∀ {M : List Nat}, (∀ x ∈ M, p x = true → q x = true) → (M.filter p).length ≤ (M.filter q).length := by
      intro M
      induction M with
      | nil => intro _; exact Nat.le_refl _
      | cons x M ih =>
        intro h
        have := ih fun y hy => h y (List.mem_cons_of_mem _ hy)
        cases hp : p x with
        | true => rw [List.filter_cons_of_pos hp, List.filter_cons_of_pos (h x (by simp) hp), List.length_cons, List.length_cons]; omega
        | false =>
          rw [List.filter_cons_of_neg (by simp [hp])]
          cases hq : q x with
          | true => rw [List.filter_cons_of_pos hq, List.length_cons]; omega
          | false => rw [List.filter_cons_of_neg (by simp [hq])]; exact this
    rcases List.mem_cons.1 h2 with rfl | h2
    · rw [List.filter_cons_of_pos h3, List.filter_cons_of_neg (by simp [h4]), List.length_cons]
      have := hle fun x hx => h1 x (List.mem_cons_of_mem _ hx)
      omega
    · have := filter_lt (fun x hx => h1 x (List.mem_cons_of_mem _ hx)) h2 h3 h4
      cases hp : p c with
      | true => rw [List.filter_cons_of_pos hp, List.filter_cons_of_pos (h1 c (by simp) hp), List.length_cons, List.length_cons]; omega
      | false =>
        rw [List.filter_cons_of_neg (by simp [hp])]
        cases hq : q c with
        | true => rw [List.filter_cons_of_pos hq, List.length_cons]; omega
        | false => rw [List.filter_cons_of_neg (by simp [hq])]; exact this
theorem low_sub {l : List Nat} {S S' : Nat → Bool} (h : IsLow l S) (h' : IsLow l S') {a : Nat} (ha : a < l.length) (h1 : S a = true) (h2 : S' a = false) : cntS l.length S' < cntS l.length S := by
  refine filter_lt (a := a) (fun b hb hs => ?_) (List.mem_range.2 ha) h1 h2
  have hb' := List.mem_range.1 hb
  have ht : Lo l b a ∨ b = a ∨ Lo l a b := by
    unfold Lo; omega
  rcases ht with ht | rfl | ht
  · exact h b a hb' ha h1 ht
  · exact h1
  · have := h' a b ha hb' hs ht
    rw [h2] at this; cases this
/-- Of so many cells just one choice lies low. -/
theorem low_uniq {l : List Nat} {S S' : Nat → Bool} (h : IsLow l S) (h' : IsLow l S') (hc : cntS l.length S = cntS l.length S') {a : Nat} (ha : a < l.length) : S a = S' a := by
  cases e : S a with
  | true =>
    cases e' : S' a with
    | true => rfl
    | false => have := low_sub h h' ha e e'; omega
  | false =>
    cases e' : S' a with
    | false => rfl
    | true => have := low_sub h' h ha e' e; omega
theorem eqTo_mono (l : List Nat) (t : Nat) {a b : Nat} (h : a ≤ b) : eqTo l t a ≤ eqTo l t b := by
  unfold eqTo
  obtain ⟨r, rfl⟩ := Nat.exists_eq_add_of_le h
  rw [List.take_add, eqC_append]
  omega
theorem pick_low (l : List Nat) (k t : Nat) : IsLow l (pickB l k t) := by
  intro a b ha hb hs hl
  unfold pickB at hs ⊢
  simp only [Bool.or_eq_true, decide_eq_true_eq, Bool.and_eq_true, beq_iff_eq] at hs ⊢
  unfold Lo at hl
  rcases hs with hs | ⟨hs, hr⟩
  · left; omega
  · rcases hl with hl | ⟨hl, hlt⟩
    · left; omega
    · right
      have := eqTo_mono l t (Nat.le_of_lt hlt)
      exact ⟨by omega, by omega⟩
theorem sel_cnt {l : List Nat} {k t : Nat} (hk : 1 ≤ k) (h : rowT l k = some t) : cntS l.length (pickB l k t) = k := sel_len hk h

/-- Where an ask starts: when, in which row, at which nodes. -/
def first (p : List (List Nat)) (k : Int) : Option (Nat × Nat × List Nat) :=
  if k < 1 then none else (bestTo p k.toNat p.length).map fun s => (s.1, s.2, sel (p.getD s.2 []) k.toNat s.1)
/-- Cells are free later. -/
def setI (l : List Nat) (ns : List Int) (e : Nat) : List Nat := ns.foldl (fun (l : List Nat) (n : Int) => if 0 ≤ n ∧ n < l.length then l.set n.toNat e else l) l
def resI (p : List (List Nat)) (ok : Bool) (at_ row : Int) (ns : List Int) (len : Int) : List (List Nat) :=
  if ok = true ∧ 0 ≤ row ∧ row < p.length then p.set row.toNat (setI (p.getD row.toNat []) ns (addT at_ (max len 1))) else p
/-- Behind an ask that is reserved. -/
def aft (p : List (List Nat)) (a : Int × Int) : List (List Nat) := match first p a.1 with
  | none => p
  | some (t, i, ns) => resI p true t i (ns.map Int.ofNat) a.2
def aftL (p : List (List Nat)) (l : List (Int × Int)) : List (List Nat) := l.foldl aft p
def planAt (p : List (List Nat)) (l : List (Int × Int)) (j : Nat) : Option (Nat × Nat × List Nat) := first (aftL p (l.take j)) (l.getD j (0, 0)).1
def planL (p : List (List Nat)) (l : List (Int × Int)) : List (Option (Nat × Nat × List Nat)) := (List.range l.length).map (planAt p l)

end Go.Proofs.Ytecojmpiaaehlaa
