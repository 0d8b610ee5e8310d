/-
  Plain words: a number that was written is read again, whatever stands behind.
-/
import Derived.Test.YtahiaifdfgkemaaInkM
namespace Go.Proofs.Ytahiaifdfgkemaa.Ink

theorem getD_drop (l : List UInt8) (i : Nat) (b : UInt8) (r : List UInt8) (h : l.drop i = b :: r) : l.getD i 0 = b ∧ l.drop (i + 1) = r := by
  have h1 : (l.drop i)[0]? = some b := by rw [h]; rfl
  rw [List.getElem?_drop, Nat.add_zero] at h1
  refine ⟨by simp [h1], ?_⟩
  have : (l.drop i).drop 1 = r := by rw [h]; rfl
  rwa [List.drop_drop] at this

theorem scan_num (f : Nat) : ∀ (m i acc r : Nat) (l rest : List UInt8), f + i = 9 → l.drop i = numF f m ++ rest → m * 128 ^ i < 18446744073709551616 → (0 < i → 0 < m) → (numF f m).length ≤ r →
    scan l r i acc = (acc + m * 128 ^ i, i + (numF f m).length) := by
  induction f with
  | zero =>
    intro m i acc r l rest hfi hl hm hp hr
    have hi : i = 9 := by omega
    subst hi
    have hm1 : m ≤ 1 := by
      have : (128 : Nat) ^ 9 = 9223372036854775808 := by decide
      rw [this] at hm
      omega
    have h1 := getD_drop l 9 (UInt8.ofNat m) rest (by rw [hl]; rfl)
    obtain ⟨r', rfl⟩ := Nat.exists_eq_succ_of_ne_zero (show r ≠ 0 by simp [numF] at hr; omega)
    have hb : (UInt8.ofNat m).toNat = m := by rw [UInt8.toNat_ofNat']; omega
    rw [scan, h1.1, hb, if_neg (by omega), if_neg (by omega), if_neg (by have := hp (by omega); omega), Nat.mod_eq_of_lt (by omega)]
    simp [numF]
  | succ f ih =>
    intro m i acc r l rest hfi hl hm hp hr
    obtain ⟨r', rfl⟩ := Nat.exists_eq_succ_of_ne_zero (show r ≠ 0 by
      intro e
      rw [e] at hr
      unfold numF at hr
      split at hr <;> simp at hr)
    by_cases c : m < 128
    · have e : numF (f + 1) m = [UInt8.ofNat m] := by rw [numF, if_pos c]
      rw [e] at hl ⊢
      have h1 := getD_drop l i (UInt8.ofNat m) rest (by rw [hl]; rfl)
      have hb : (UInt8.ofNat m).toNat = m := by rw [UInt8.toNat_ofNat']; omega
      rw [scan, h1.1, hb, if_neg (by omega), if_neg (by omega), if_neg (by
        intro h
        have := hp h.2
        omega), Nat.mod_eq_of_lt c]
      simp
    · have e : numF (f + 1) m = UInt8.ofNat (m % 128 + 128) :: numF f (m / 128) := by rw [numF, if_neg c]
      rw [e] at hl hr ⊢
      have h1 := getD_drop l i (UInt8.ofNat (m % 128 + 128)) (numF f (m / 128) ++ rest) (by rw [hl]; rfl)
      have hb : (UInt8.ofNat (m % 128 + 128)).toNat = m % 128 + 128 := by rw [UInt8.toNat_ofNat']; omega
      have hmul : m % 128 * 128 ^ i + m / 128 * 128 ^ (i + 1) = m * 128 ^ i := by
        rw [Nat.pow_succ, Nat.mul_comm (128 ^ i) 128, ← Nat.mul_assoc, ← Nat.add_mul]
        congr 1
        omega
      have hih := ih (m / 128) (i + 1) (acc + m % 128 * 128 ^ i) r' l rest (by omega) h1.2 (by omega) (fun _ => by omega) (by simp at hr; omega)
      rw [scan, h1.1, hb, if_neg (by omega), if_pos (by omega), show (m % 128 + 128) % 128 = m % 128 by omega, hih, Nat.add_assoc, hmul]
      simp
      omega

/-- WHAT WAS WRITTEN IS READ AGAIN. -/
theorem front_num (n : Nat) (rest : List UInt8) (hn : n < 18446744073709551616) : front (num n ++ rest) = (n, (num n).length) := by
  have hl := num_length n
  have := scan_num 9 n 0 0 (min (num n ++ rest).length 10) (num n ++ rest) rest rfl rfl (by simpa using hn) (fun h => absurd h (by omega)) (by
    show (num n).length ≤ _
    rw [List.length_append]
    omega)
  unfold front
  rw [this]
  show _ = (n, (num n).length)
  simp
  rfl

theorem numF_mono (f : Nat) : ∀ m n, m ≤ n → (numF f m).length ≤ (numF f n).length := by
  induction f with
  | zero => intro m n _; simp [numF]
  | succ f ih =>
    intro m n h
    by_cases c : m < 128
    · have e : numF (f + 1) m = [UInt8.ofNat m] := by rw [numF, if_pos c]
      rw [e]
      by_cases d : n < 128
      · rw [numF, if_pos d]; simp
      · rw [numF, if_neg d]; simp
    · have e : numF (f + 1) m = UInt8.ofNat (m % 128 + 128) :: numF f (m / 128) := by rw [numF, if_neg c]
      have e2 : numF (f + 1) n = UInt8.ofNat (n % 128 + 128) :: numF f (n / 128) := by rw [numF, if_neg (by omega)]
      rw [e, e2]
      have := ih (m / 128) (n / 128) (by omega)
      simpa using this

theorem num_mono (m n : Nat) (h : m ≤ n) : (num m).length ≤ (num n).length := numF_mono 9 m n h

theorem num_inj (m n : Nat) (hm : m < 18446744073709551616) (hn : n < 18446744073709551616) (h : num m = num n) : m = n := by
  have h1 := front_num m [] hm
  have h2 := front_num n [] hn
  rw [h, h2] at h1
  exact (congrArg Prod.fst h1).symm

end Go.Proofs.Ytahiaifdfgkemaa.Ink
