/-
  Layer 6: runs of free places, in plain mathematics.
-/
import Derived.Test.YtbagpckiegpalaaBmB
namespace Go.Proofs.Ytbagpckiegpalaa
set_option linter.unusedVariables false
set_option linter.unusedSimpArgs false

/-- Runs from lo on, rising, none is empty, no two touch, all end by hi. -/
def RunsFrom : Int → List (Int × Int) → Int → Prop
  | _, [], _ => True
  | lo, (f, u) :: l, hi => lo ≤ f ∧ f < u ∧ u ≤ hi ∧ RunsFrom (u + 1) l hi

/-- The place p is in one of the runs. -/
def FreeIn : List (Int × Int) → Int → Prop
  | [], _ => False
  | (f, u) :: l, p => (f ≤ p ∧ p < u) ∨ FreeIn l p

theorem RunsFrom.mono {F : List (Int × Int)} {lo lo' hi : Int} (h : RunsFrom lo F hi) (hl : lo' ≤ lo) : RunsFrom lo' F hi := by
  cases F with
  | nil => trivial
  | cons x l => obtain ⟨f, u⟩ := x; obtain ⟨h1, h2, h3, h4⟩ := h; exact ⟨by omega, h2, h3, h4⟩

theorem RunsFrom.at {F : List (Int × Int)} {lo hi : Int} (h : RunsFrom lo F hi) (k : Nat) (f u : Int) (hk : F[k]? = some (f, u)) : lo ≤ f ∧ f < u ∧ u ≤ hi := by
  induction F generalizing lo k with
  | nil => simp at hk
  | cons x l ih =>
    obtain ⟨a, b⟩ := x
    obtain ⟨h1, h2, h3, h4⟩ := h
    cases k with
    | zero => simp at hk; obtain ⟨rfl, rfl⟩ := hk; exact ⟨h1, h2, h3⟩
    | succ k => have := ih h4 k (by simpa using hk); omega

theorem FreeIn.ge {F : List (Int × Int)} {lo hi p : Int} (h : RunsFrom lo F hi) (hp : FreeIn F p) : lo ≤ p ∧ p < hi := by
  induction F generalizing lo with
  | nil => exact hp.elim
  | cons x l ih =>
    obtain ⟨a, b⟩ := x
    obtain ⟨h1, h2, h3, h4⟩ := h
    rcases hp with hp | hp
    · omega
    · have := ih h4 hp; omega

/-- The first run that doesn't end ahead of i. -/
def firstEnd : List (Int × Int) → Int → Nat
  | [], _ => 0
  | (_, u) :: l, i => if i < u then 0 else firstEnd l i + 1

theorem firstEnd_le (F : List (Int × Int)) (i : Int) : firstEnd F i ≤ F.length := by
  induction F with
  | nil => exact Nat.le_refl _
  | cons x l ih => obtain ⟨a, b⟩ := x; simp only [firstEnd, List.length_cons]; split <;> omega

theorem firstEnd_iff {F : List (Int × Int)} {lo hi : Int} (h : RunsFrom lo F hi) (i : Int) (k : Nat) (f u : Int) (hk : F[k]? = some (f, u)) : i < u ↔ firstEnd F i ≤ k := by
  induction F generalizing lo k with
  | nil => simp at hk
  | cons x l ih =>
    obtain ⟨a, b⟩ := x
    obtain ⟨h1, h2, h3, h4⟩ := h
    simp only [firstEnd]
    by_cases hb : i < b
    · rw [if_pos hb]
      refine ⟨fun _ => Nat.zero_le k, fun _ => ?_⟩
      cases k with
      | zero => simp at hk; obtain ⟨rfl, rfl⟩ := hk; exact hb
      | succ k => have := h4.at k f u (by simpa using hk); omega
    · rw [if_neg hb]
      cases k with
      | zero => simp at hk; obtain ⟨rfl, rfl⟩ := hk; constructor <;> intro <;> omega
      | succ k => rw [ih h4 k (by simpa using hk)]; omega

theorem firstEnd_at {F : List (Int × Int)} {lo hi : Int} (h : RunsFrom lo F hi) (i : Int) (k : Nat) (f u : Int) (hk : F[k]? = some (f, u)) : decide (i < u) = decide (firstEnd F i ≤ k) :=
  decide_eq_decide.2 (firstEnd_iff h i k f u hk)

/-- A place is free just where the first run that doesn't end ahead of it begins by it. -/
theorem free_iff {F : List (Int × Int)} {lo hi : Int} (h : RunsFrom lo F hi) (i : Int) : FreeIn F i ↔ ∃ f u, F[firstEnd F i]? = some (f, u) ∧ f ≤ i := by
  induction F generalizing lo with
  | nil => simp [FreeIn]
  | cons x l ih =>
    obtain ⟨a, b⟩ := x
    obtain ⟨h1, h2, h3, h4⟩ := h
    simp only [FreeIn, firstEnd]
    by_cases hb : i < b
    · rw [if_pos hb]
      constructor
      · rintro (hp | hp)
        · exact ⟨a, b, rfl, hp.1⟩
        · have := hp.ge h4; omega
      · rintro ⟨f, u, hk, hf⟩
        simp at hk
        obtain ⟨rfl, rfl⟩ := hk
        exact .inl ⟨hf, hb⟩
    · rw [if_neg hb]
      simp only [List.getElem?_cons_succ]
      rw [← ih h4]
      constructor
      · rintro (hp | hp)
        · omega
        · exact hp
      · exact .inr

/-- How many places the runs have. -/
def runSum : List (Int × Int) → Int
  | [] => 0
  | (f, u) :: l => (u - f) + runSum l

/-- The run k loses the place i. -/
def unrun (f u i : Int) : List (Int × Int) :=
  (if f < i then [(f, i)] else []) ++ (if i + 1 < u then [(i + 1, u)] else [])

theorem FreeIn_append (F G : List (Int × Int)) (p : Int) : FreeIn (F ++ G) p ↔ FreeIn F p ∨ FreeIn G p := by
  induction F with
  | nil => simp [FreeIn]
  | cons x l ih => obtain ⟨a, b⟩ := x; simp only [List.cons_append, FreeIn, ih, or_assoc]

theorem free_unrun (f u i p : Int) (h1 : f ≤ i) (h2 : i < u) : FreeIn (unrun f u i) p ↔ (f ≤ p ∧ p < u) ∧ p ≠ i := by
  unfold unrun
  rw [FreeIn_append]
  have e1 : FreeIn (if f < i then [(f, i)] else []) p ↔ (f ≤ p ∧ p < i) := by
    by_cases ha : f < i
    · rw [if_pos ha]; simp [FreeIn]
    · rw [if_neg ha]; constructor
      · intro hh; exact hh.elim
      · omega
  have e2 : FreeIn (if i + 1 < u then [(i + 1, u)] else []) p ↔ (i + 1 ≤ p ∧ p < u) := by
    by_cases ha : i + 1 < u
    · rw [if_pos ha]; simp [FreeIn]
    · rw [if_neg ha]; constructor
      · intro hh; exact hh.elim
      · omega
  rw [e1, e2]
  omega

theorem runSum_append (F G : List (Int × Int)) : runSum (F ++ G) = runSum F + runSum G := by
  induction F with
  | nil => simp [runSum]
  | cons x l ih => obtain ⟨a, b⟩ := x; simp only [List.cons_append, runSum, ih]; omega

theorem runSum_unrun (f u i : Int) (h1 : f ≤ i) (h2 : i < u) : runSum (unrun f u i) = u - f - 1 := by
  unfold unrun
  rw [runSum_append]
  by_cases ha : f < i <;> by_cases hb : i + 1 < u <;> simp only [ha, hb, if_true, if_false, runSum] <;> omega

/-- The runs without the place i. -/
def markR : List (Int × Int) → Int → List (Int × Int)
  | [], _ => []
  | (f, u) :: l, i => if i < u then unrun f u i ++ l else (f, u) :: markR l i

theorem markR_form (F : List (Int × Int)) (i f u : Int) (h : F[firstEnd F i]? = some (f, u)) : markR F i = F.take (firstEnd F i) ++ (unrun f u i ++ F.drop (firstEnd F i + 1)) := by
  induction F with
  | nil => simp at h
  | cons x l ih =>
    obtain ⟨a, b⟩ := x
    simp only [firstEnd, markR] at h ⊢
    by_cases hb : i < b
    · simp only [if_pos hb] at h ⊢
      simp at h
      obtain ⟨rfl, rfl⟩ := h
      rfl
    · simp only [if_neg hb] at h ⊢
      rw [ih (by simpa using h)]
      rfl

theorem RunsFrom.unrun {l : List (Int × Int)} {lo f u i hi : Int} (h1 : lo ≤ f) (h2 : f ≤ i) (h3 : i < u) (h4 : u ≤ hi) (h : RunsFrom (u + 1) l hi) : RunsFrom lo (unrun f u i ++ l) hi := by
  unfold Go.Proofs.Ytbagpckiegpalaa.unrun
  by_cases ha : f < i <;> by_cases hb : i + 1 < u
  · rw [if_pos ha, if_pos hb]; exact ⟨h1, ha, by omega, by omega, hb, h4, h⟩
  · rw [if_pos ha, if_neg hb]; exact ⟨h1, ha, by omega, h.mono (by omega)⟩
  · rw [if_neg ha, if_pos hb]; exact ⟨by omega, hb, h4, h⟩
  · rw [if_neg ha, if_neg hb]; exact h.mono (by omega)

theorem markR_runs {F : List (Int × Int)} {lo hi i : Int} (h : RunsFrom lo F hi) (hp : FreeIn F i) : RunsFrom lo (markR F i) hi ∧ (∀ p, FreeIn (markR F i) p ↔ FreeIn F p ∧ p ≠ i) ∧ runSum (markR F i) = runSum F - 1 := by
  induction F generalizing lo with
  | nil => exact hp.elim
  | cons x l ih =>
    obtain ⟨a, b⟩ := x
    obtain ⟨h1, h2, h3, h4⟩ := h
    simp only [markR]
    by_cases hb : i < b
    · rw [if_pos hb]
      have ha : a ≤ i := by
        rcases hp with hp | hp
        · exact hp.1
        · have := hp.ge h4; omega
      refine ⟨RunsFrom.unrun h1 ha hb h3 h4, fun p => ?_, ?_⟩
      · rw [FreeIn_append, free_unrun a b i p ha hb]
        simp only [FreeIn]
        constructor
        · rintro (hh | hh)
          · exact ⟨.inl hh.1, hh.2⟩
          · have := hh.ge h4; exact ⟨.inr hh, by omega⟩
        · rintro ⟨hh | hh, hn⟩
          · exact .inl ⟨hh, hn⟩
          · exact .inr hh
      · rw [runSum_append, runSum_unrun a b i ha hb]; simp only [runSum]; omega
    · rw [if_neg hb]
      have hq : FreeIn l i := by
        rcases hp with hp | hp
        · omega
        · exact hp
      obtain ⟨r1, r2, r3⟩ := ih h4 hq
      refine ⟨⟨h1, h2, h3, r1⟩, fun p => ?_, ?_⟩
      · simp only [FreeIn, r2 p]
        constructor
        · rintro (hh | hh)
          · exact ⟨.inl hh, by omega⟩
          · exact ⟨.inr hh.1, hh.2⟩
        · rintro ⟨hh | hh, hn⟩
          · exact .inl hh
          · exact .inr ⟨hh, hn⟩
      · simp only [runSum, r3]; omega

/-- The runs with the place i too, which is in none of them. -/
def freeR : List (Int × Int) → Int → List (Int × Int)
  | [], i => [(i, i + 1)]
  | (f, u) :: l, i =>
    if i < u then (if f = i + 1 then (i, u) :: l else (i, i + 1) :: (f, u) :: l)
    else if u = i then (match l with
      | [] => [(f, i + 1)]
      | (f', u') :: l' => if f' = i + 1 then (f, u') :: l' else (f, i + 1) :: (f', u') :: l')
    else (f, u) :: freeR l i

theorem freeR_runs {F : List (Int × Int)} {lo hi i : Int} (h : RunsFrom lo F hi) (h0 : lo ≤ i) (h1 : i < hi) (hp : ¬ FreeIn F i) :
    RunsFrom lo (freeR F i) hi ∧ (∀ p, FreeIn (freeR F i) p ↔ FreeIn F p ∨ p = i) ∧ runSum (freeR F i) = runSum F + 1 := by
  induction F generalizing lo with
  | nil => exact ⟨⟨h0, by omega, by omega, trivial⟩, fun p => by simp only [freeR, FreeIn, or_false, false_or]; constructor <;> intro <;> omega, by simp only [freeR, runSum]; omega⟩
  | cons x l ih =>
    obtain ⟨a, b⟩ := x
    obtain ⟨k1, k2, k3, k4⟩ := h
    have hn1 : ¬ (a ≤ i ∧ i < b) := fun hh => hp (.inl hh)
    have hn2 : ¬ FreeIn l i := fun hh => hp (.inr hh)
    by_cases hb : i < b
    · by_cases hc : a = i + 1
      · have e : freeR ((a, b) :: l) i = (i, b) :: l := by simp only [freeR, if_pos hb, if_pos hc]
        rw [e]
        refine ⟨⟨h0, hb, k3, k4⟩, fun p => ?_, by simp only [runSum]; omega⟩
        simp only [FreeIn]
        by_cases hf : FreeIn l p <;> simp only [hf, or_true, true_or, or_false] <;> omega
      · have e : freeR ((a, b) :: l) i = (i, i + 1) :: (a, b) :: l := by simp only [freeR, if_pos hb, if_neg hc]
        rw [e]
        refine ⟨⟨h0, by omega, by omega, by omega, k2, k3, k4⟩, fun p => ?_, by simp only [runSum]; omega⟩
        simp only [FreeIn]
        by_cases hf : FreeIn l p <;> simp only [hf, or_true, true_or, or_false] <;> omega
    · by_cases hc : b = i
      · cases l with
        | nil =>
          have e : freeR [(a, b)] i = [(a, i + 1)] := by simp only [freeR, if_neg hb, if_pos hc]
          rw [e]
          refine ⟨⟨k1, by omega, by omega, trivial⟩, fun p => ?_, by simp only [runSum]; omega⟩
          simp only [FreeIn, or_false]
          constructor <;> intro <;> omega
        | cons y l' =>
          obtain ⟨c, d⟩ := y
          obtain ⟨j1, j2, j3, j4⟩ := k4
          by_cases hd : c = i + 1
          · have e : freeR ((a, b) :: (c, d) :: l') i = (a, d) :: l' := by simp only [freeR, if_neg hb, if_pos hc, if_pos hd]
            rw [e]
            refine ⟨⟨k1, by omega, j3, j4⟩, fun p => ?_, by simp only [runSum]; omega⟩
            simp only [FreeIn]
            by_cases hf : FreeIn l' p <;> simp only [hf, or_true, true_or, or_false] <;> omega
          · have e : freeR ((a, b) :: (c, d) :: l') i = (a, i + 1) :: (c, d) :: l' := by simp only [freeR, if_neg hb, if_pos hc, if_neg hd]
            rw [e]
            refine ⟨⟨k1, by omega, by omega, by omega, j2, j3, j4⟩, fun p => ?_, by simp only [runSum]; omega⟩
            simp only [FreeIn]
            by_cases hf : FreeIn l' p <;> simp only [hf, or_true, true_or, or_false] <;> omega
      · have e : freeR ((a, b) :: l) i = (a, b) :: freeR l i := by simp only [freeR, if_neg hb, if_neg hc]
        rw [e]
        obtain ⟨r1, r2, r3⟩ := ih k4 (by omega) hn2
        refine ⟨⟨k1, k2, k3, r1⟩, fun p => ?_, by simp only [runSum, r3]; omega⟩
        simp only [FreeIn, r2 p, or_assoc]

/-- The runs without their n first places. -/
def takeR : List (Int × Int) → Nat → List (Int × Int)
  | [], _ => []
  | (f, u) :: l, n => if (n : Int) < u - f then (f + n, u) :: l else takeR l (n - (u - f).toNat)

/-- The n first places of the runs. -/
def firstsR : List (Int × Int) → Nat → List Int
  | [], _ => []
  | (f, u) :: l, n => if (n : Int) < u - f then (List.range n).map (fun (k : Nat) => f + (k : Int)) else (List.range (u - f).toNat).map (fun (k : Nat) => f + (k : Int)) ++ firstsR l (n - (u - f).toNat)

theorem takeR_runs {F : List (Int × Int)} {lo hi : Int} {n : Nat} (h : RunsFrom lo F hi) (hn : (n : Int) ≤ runSum F) :
    RunsFrom lo (takeR F n) hi ∧ (∀ p, FreeIn (takeR F n) p ↔ FreeIn F p ∧ p ∉ firstsR F n) ∧ runSum (takeR F n) = runSum F - n ∧ (firstsR F n).length = n := by
  induction F generalizing lo n with
  | nil => simp only [runSum] at hn; have : n = 0 := by omega
           subst this; exact ⟨trivial, fun p => by simp [takeR, FreeIn], rfl, rfl⟩
  | cons x l ih =>
    obtain ⟨a, b⟩ := x
    obtain ⟨k1, k2, k3, k4⟩ := h
    simp only [takeR, firstsR]
    by_cases hb : (n : Int) < b - a
    · simp only [if_pos hb]
      refine ⟨⟨by omega, by omega, k3, k4⟩, fun p => ?_, by simp only [runSum]; omega, by simp⟩
      have hm : p ∈ (List.range n).map (fun (k : Nat) => a + (k : Int)) ↔ a ≤ p ∧ p < a + n := by
        simp only [List.mem_map, List.mem_range]
        constructor
        · rintro ⟨k, hk, rfl⟩; omega
        · intro hh; exact ⟨(p - a).toNat, by omega, by omega⟩
      rw [hm]
      simp only [FreeIn]
      by_cases hf : FreeIn l p
      · have := hf.ge k4
        simp only [hf, or_true, true_and, true_iff]; omega
      · simp only [hf, or_false]; omega
    · simp only [if_neg hb]
      simp only [runSum] at hn
      obtain ⟨r1, r2, r3, r4⟩ := ih (n := n - (b - a).toNat) k4 (by omega)
      refine ⟨r1.mono (by omega), fun p => ?_, by simp only [runSum, r3]; omega, by simp [r4]; omega⟩
      have hm : p ∈ (List.range (b - a).toNat).map (fun (k : Nat) => a + (k : Int)) ↔ a ≤ p ∧ p < b := by
        simp only [List.mem_map, List.mem_range]
        constructor
        · rintro ⟨k, hk, rfl⟩; omega
        · intro hh; exact ⟨(p - a).toNat, by omega, by omega⟩
      rw [r2 p, List.mem_append, hm]
      simp only [FreeIn]
      by_cases hf : FreeIn l p
      · have := hf.ge k4
        simp only [hf, or_true, true_and]
        constructor
        · intro hh hh2; rcases hh2 with hh2 | hh2
          · omega
          · exact hh hh2
        · intro hh hh2; exact hh (.inr hh2)
      · simp only [hf, false_and, or_false, false_iff]
        rintro ⟨hh, hh2⟩
        exact hh2 (.inl hh)

end Go.Proofs.Ytbagpckiegpalaa
