/-
  Plain words: the document's number in front, found the long way; what an eye answers and what it leaves.
-/
import Derived.Test.YtahiaifdfgkemaaInkN
namespace Go.Proofs.Ytahiaifdfgkemaa.Ink

theorem scan_zero (l : List UInt8) : ∀ r i acc, (scan l r i acc).2 = 0 → scan l r i acc = (0, 0) := by
  intro r
  induction r with
  | zero => intro i acc _; rfl
  | succ r ih =>
    intro i acc h
    rw [scan] at h ⊢
    split
    · rfl
    · rename_i c1
      rw [if_neg c1] at h
      split
      · rename_i c2
        rw [if_pos c2] at h
        exact ih _ _ h
      · rename_i c2
        rw [if_neg c2] at h
        split
        · rfl
        · rename_i c3
          rw [if_neg c3] at h
          simp at h

theorem scan_le (l : List UInt8) : ∀ r i acc, (scan l r i acc).2 ≤ i + r := by
  intro r
  induction r with
  | zero => intro i acc; simp [scan]
  | succ r ih =>
    intro i acc
    rw [scan]
    split
    · simp
    · split
      · have := ih (i + 1) (acc + (l.getD i 0).toNat % 128 * 128 ^ i)
        omega
      · split
        · simp
        · simp

theorem front_zero (l : List UInt8) (h : (front l).2 = 0) : front l = (0, 0) := scan_zero l _ _ _ h

theorem front_le (l : List UInt8) : (front l).2 ≤ l.length := by
  have := scan_le l (min l.length 10) 0 0
  unfold front
  omega

/-- What seven bits each say. -/
def val : List UInt8 → Nat
  | [] => 0
  | b :: r => b.toNat % 128 + 128 * val r

theorem val_lt (l : List UInt8) : val l < 128 ^ l.length := by
  induction l with
  | nil => decide
  | cons b r ih =>
    have : b.toNat % 128 < 128 := Nat.mod_lt _ (by omega)
    simp only [val, List.length_cons, Nat.pow_succ]
    omega

theorem val_append (l m : List UInt8) : val (l ++ m) = val l + 128 ^ l.length * val m := by
  induction l with
  | nil => simp [val]
  | cons b r ih =>
    simp only [List.cons_append, val, List.length_cons, Nat.pow_succ, ih, Nat.mul_add]
    rw [Nat.mul_comm (128 ^ r.length) 128, Nat.mul_assoc]
    omega

/-- The bytes from place j to place k. -/
def mid (l : List UInt8) (j k : Nat) : List UInt8 := (l.take (k + 1)).drop j

theorem mid_length (l : List UInt8) (j k : Nat) (hk : k < l.length) : (mid l j k).length = k + 1 - j := by
  unfold mid; simp; omega

theorem mid_end (l : List UInt8) (k : Nat) : mid l (k + 1) k = [] := by
  unfold mid
  exact List.drop_eq_nil_of_le (by simp; omega)

theorem mid_step (l : List UInt8) (j k : Nat) (hj : j ≤ k) (hk : k < l.length) : mid l j k = l.getD j 0 :: mid l (j + 1) k := by
  unfold mid
  have hl : j < (l.take (k + 1)).length := by simp; omega
  rw [List.drop_eq_getElem_cons hl]
  congr 1
  simp [List.getElem?_eq_getElem (show j < l.length by omega)]

/-- It fits 64 bits. -/
theorem mid_lt (l : List UInt8) (k : Nat) (hk : k < l.length) (hk9 : k ≤ 9) : ∀ d j, d = k + 1 - j → (k = 9 → j ≤ 9 → (l.getD 9 0).toNat ≤ 1) → val (mid l j k) < 18446744073709551616 := by
  intro d j hd h9
  by_cases hj : k < j
  · have : mid l j k = [] := by
      unfold mid
      exact List.drop_eq_nil_of_le (by simp; omega)
    rw [this]; decide
  · by_cases c : k = 9
    · subst c
      have h1 := h9 rfl (by omega)
      have hl : mid l j 9 = mid l j 8 ++ [l.getD 9 0] := by
        unfold mid
        have : l.take (9 + 1) = l.take (8 + 1) ++ [l.getD 9 0] := by
          rw [List.take_succ_eq_append_getElem (by omega)]
          simp [List.getElem?_eq_getElem hk]
        rw [this, List.drop_append_of_le_length (by simp; omega)]
      have h2 := val_lt (mid l j 8)
      rw [mid_length l j 8 (by omega)] at h2
      rw [hl, val_append, mid_length l j 8 (by omega)]
      have h3 : (128 : Nat) ^ (8 + 1 - j) ≤ 128 ^ 9 := Nat.pow_le_pow_right (by omega) (by omega)
      have h4 : val [l.getD 9 0] ≤ 1 := by simp only [val]; omega
      have h5 : 128 ^ (8 + 1 - j) * val [l.getD 9 0] ≤ 128 ^ 9 * 1 := Nat.mul_le_mul h3 h4
      have : (128 : Nat) ^ 9 = 9223372036854775808 := by decide
      omega
    · have h2 := val_lt (mid l j k)
      rw [mid_length l j k hk] at h2
      have h3 : (128 : Nat) ^ (k + 1 - j) ≤ 128 ^ 9 := Nat.pow_le_pow_right (by omega) (by omega)
      have : (128 : Nat) ^ 9 = 9223372036854775808 := by decide
      omega

theorem scan_none (l : List UInt8) : ∀ r i acc, (∀ j, i ≤ j → j < i + r → 128 ≤ (l.getD j 0).toNat) → scan l r i acc = (0, 0) := by
  intro r
  induction r with
  | zero => intro i acc _; rfl
  | succ r ih =>
    intro i acc h
    have h0 := h i (Nat.le_refl _) (by omega)
    rw [scan]
    split
    · rfl
    · exact ih _ _ (fun j h1 h2 => h j (by omega) (by omega))

theorem scan_val (l : List UInt8) (k : Nat) (hk : k < l.length) (hl : ∀ j, j < k → 128 ≤ (l.getD j 0).toNat) (hb : (l.getD k 0).toNat < 128) (hk9 : k ≤ 9) (h9 : k = 9 → (l.getD 9 0).toNat ≤ 1) (h0 : (l.getD k 0).toNat = 0 → k = 0) :
    ∀ d i acc r, d = k - i → i ≤ k → k < i + r → scan l r i acc = (acc + val (mid l i k) * 128 ^ i, k + 1) := by
  intro d
  induction d with
  | zero =>
    intro i acc r hd hi hr
    obtain rfl : i = k := by omega
    obtain ⟨r', rfl⟩ := Nat.exists_eq_succ_of_ne_zero (show r ≠ 0 by omega)
    rw [scan, if_neg (by rintro ⟨e, h⟩; subst e; have := h9 rfl; omega), if_neg (by omega), if_neg (by rintro ⟨e, h⟩; have := h0 e; omega), mid_step l i i (Nat.le_refl _) hk, mid_end]
    simp [val]
  | succ d ih =>
    intro i acc r hd hi hr
    obtain ⟨r', rfl⟩ := Nat.exists_eq_succ_of_ne_zero (show r ≠ 0 by omega)
    have h1 := hl i (by omega)
    rw [scan, if_neg (by omega), if_pos h1, ih (i + 1) _ r' (by omega) (by omega) (by omega), mid_step l i k (by omega) hk]
    simp only [val, Nat.pow_succ, Nat.add_mul, Prod.mk.injEq, and_true]
    rw [Nat.mul_comm (128 ^ i) 128, ← Nat.mul_assoc, Nat.mul_comm (val (mid l (i + 1) k)) 128]
    omega

theorem front_none1 (l : List UInt8) (k : Nat) (hl : ∀ j, j < k → 128 ≤ (l.getD j 0).toNat) (hk : k = min l.length 10) : front l = (0, 0) := by
  unfold front
  exact scan_none l _ _ _ (fun j _ h => hl j (by omega))

theorem scan_bad (l : List UInt8) (k : Nat) (hl : ∀ j, j < k → 128 ≤ (l.getD j 0).toNat) (hb : (l.getD k 0).toNat < 128) (hx : (k = 9 ∧ 1 < (l.getD 9 0).toNat) ∨ ((l.getD k 0).toNat = 0 ∧ 0 < k)) :
    ∀ d i acc r, d = k - i → i ≤ k → scan l r i acc = (0, 0) := by
  intro d
  induction d with
  | zero =>
    intro i acc r hd hi
    obtain rfl : i = k := by omega
    cases r with
    | zero => rfl
    | succ r =>
      rw [scan]
      rcases hx with ⟨e, h⟩ | ⟨e, h⟩
      · subst e
        rw [if_pos ⟨rfl, h⟩]
      · split
        · rfl
        · rw [if_neg (by omega), if_pos ⟨e, h⟩]
  | succ d ih =>
    intro i acc r hd hi
    cases r with
    | zero => rfl
    | succ r =>
      have h1 := hl i (by omega)
      rw [scan]
      split
      · rfl
      · exact ih _ _ _ (by omega) (by omega)

theorem front_bad (l : List UInt8) (k : Nat) (hl : ∀ j, j < k → 128 ≤ (l.getD j 0).toNat) (hb : (l.getD k 0).toNat < 128) (hx : (k = 9 ∧ 1 < (l.getD 9 0).toNat) ∨ ((l.getD k 0).toNat = 0 ∧ 0 < k)) : front l = (0, 0) :=
  scan_bad l k hl hb hx _ 0 0 _ rfl (Nat.zero_le _)

theorem front_good (l : List UInt8) (k : Nat) (hk : k < l.length) (hl : ∀ j, j < k → 128 ≤ (l.getD j 0).toNat) (hb : (l.getD k 0).toNat < 128) (hk9 : k ≤ 9) (h9 : k = 9 → (l.getD 9 0).toNat ≤ 1) (h0 : (l.getD k 0).toNat = 0 → k = 0) :
    front l = (val (mid l 0 k), k + 1) := by
  unfold front
  rw [scan_val l k hk hl hb hk9 h9 h0 _ 0 0 _ rfl (Nat.zero_le _) (by omega)]
  simp

/-- How many bytes a number has. -/
theorem numF_len (f : Nat) : ∀ n k, n < 128 ^ (k + 1) → (numF f n).length ≤ k + 1 := by
  induction f with
  | zero => intro n k _; simp [numF]
  | succ f ih =>
    intro n k h
    rw [numF]
    split
    · simp
    · rename_i c
      cases k with
      | zero => simp at h; omega
      | succ k =>
        have := ih (n / 128) k (by rw [Nat.pow_succ] at h; omega)
        simp
        omega

theorem numF_ge (f : Nat) : ∀ n k, 128 ^ k ≤ n → k ≤ f → k + 1 ≤ (numF f n).length := by
  induction f with
  | zero => intro n k _ h; simp [numF]; omega
  | succ f ih =>
    intro n k h hk
    rw [numF]
    split
    · rename_i c
      cases k with
      | zero => simp
      | succ k =>
        have : 128 ≤ 128 ^ (k + 1) := by
          rw [Nat.pow_succ]
          have := Nat.one_le_two_pow (n := 0)
          have : 1 ≤ 128 ^ k := Nat.one_le_pow _ _ (by omega)
          omega
        omega
    · cases k with
      | zero => simp
      | succ k =>
        have := ih (n / 128) k (by rw [Nat.pow_succ] at h; omega) (by omega)
        simp
        omega

theorem val_last (l : List UInt8) (k : Nat) (hk : k < l.length) : val (mid l 0 k) = val (l.take k) + 128 ^ k * ((l.getD k 0).toNat % 128) := by
  have : mid l 0 k = l.take k ++ [l.getD k 0] := by
    unfold mid
    rw [List.drop_zero, List.take_succ_eq_append_getElem hk]
    simp [List.getElem?_eq_getElem hk]
  have hl : (l.take k).length = k := by simp; omega
  rw [this, val_append, hl]
  simp [val]

/-- A number that is written with fewer bytes than it stands there with. -/
theorem num_short (l : List UInt8) (k : Nat) (hk : k < l.length) (h0 : (l.getD k 0).toNat = 0) (hk0 : 0 < k) : (num (val (mid l 0 k))).length ≠ k + 1 := by
  rw [val_last l k hk, h0]
  have h1 := val_lt (l.take k)
  have hl : (l.take k).length = k := by simp; omega
  rw [hl] at h1
  obtain ⟨k', rfl⟩ := Nat.exists_eq_succ_of_ne_zero (show k ≠ 0 by omega)
  have := numF_len 9 (val (l.take (k' + 1)) + 128 ^ (k' + 1) * (0 % 128)) k' (by simpa using h1)
  unfold num
  simp only [Nat.succ_eq_add_one] at *
  omega

theorem num_whole (l : List UInt8) (k : Nat) (hk : k < l.length) (hk9 : k ≤ 9) (hb : (l.getD k 0).toNat < 128) (h0 : (l.getD k 0).toNat = 0 → k = 0) : (num (val (mid l 0 k))).length = k + 1 := by
  have h1 := numF_len 9 (val (mid l 0 k)) k (by have := val_lt (mid l 0 k); rwa [mid_length l 0 k hk, Nat.sub_zero] at this)
  unfold num
  by_cases c : k = 0
  · have := (num_length (val (mid l 0 k))).2
    unfold num at this
    omega
  · have h2 := val_last l k hk
    have h3 : 1 ≤ (l.getD k 0).toNat % 128 := by
      rw [Nat.mod_eq_of_lt hb]
      rcases Nat.eq_zero_or_pos (l.getD k 0).toNat with h | h
      · exact absurd (h0 h) c
      · exact h
    have h4 : 128 ^ k * 1 ≤ 128 ^ k * ((l.getD k 0).toNat % 128) := Nat.mul_le_mul_left _ h3
    have := numF_ge 9 (val (mid l 0 k)) k (by omega) hk9
    omega

/-! What an eye answers, and what it leaves: none: it has failed. -/
def stNum : Option (List UInt8) → Nat × Option (List UInt8)
  | none => (0, none)
  | some r => if (front r).2 = 0 then (0, none) else ((front r).1, some (r.drop (front r).2))

def stBelow (L : Nat) (s : Option (List UInt8)) : Nat × Option (List UInt8) := if L ≤ (stNum s).1 then (0, none) else stNum s

def stText (s : Option (List UInt8)) : List UInt8 × Option (List UInt8) :=
  match stNum s with
  | (_, none) => ([], none)
  | (n, some r) => if r.length < n then ([], none) else (r.take n, some (r.drop n))

theorem stNum_le (s : Option (List UInt8)) : ((stNum s).2.getD []).length ≤ (s.getD []).length := by
  cases s with
  | none => simp [stNum]
  | some r =>
    simp only [stNum]
    split
    · simp
    · simp

end Go.Proofs.Ytahiaifdfgkemaa.Ink
