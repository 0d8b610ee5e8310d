/-
  Plain words for ink: a number's bytes. Nothing of a program here.
-/
namespace Go.Proofs.Ytahiaifdfgkemaa.Ink

def numF : Nat → Nat → List UInt8
  | 0, n => [UInt8.ofNat n]
  | f + 1, n => if n < 128 then [UInt8.ofNat n] else UInt8.ofNat (n % 128 + 128) :: numF f (n / 128)

/-- A number's bytes (below 2^64). -/
def num (n : Nat) : List UInt8 := numF 9 n

theorem numF_more (f n : Nat) (h : n < 128 ^ (f + 1)) : numF (f + 1) n = numF f n := by
  induction f generalizing n with
  | zero =>
    have : n < 128 := by simpa using h
    unfold numF
    rw [if_pos this]
  | succ f ih =>
    by_cases c : n < 128
    · unfold numF; rw [if_pos c, if_pos c]
    · have h1 : numF (f + 2) n = UInt8.ofNat (n % 128 + 128) :: numF (f + 1) (n / 128) := by
        rw [show f + 2 = (f + 1) + 1 from rfl, numF, if_neg c]
      have h2 : numF (f + 1) n = UInt8.ofNat (n % 128 + 128) :: numF f (n / 128) := by
        rw [numF, if_neg c]
      rw [h1, h2, ih (n / 128) (by rw [Nat.pow_succ] at h; omega)]

theorem num_small (n : Nat) (h : n < 128) : num n = [UInt8.ofNat n] := by
  unfold num
  rw [numF, if_pos h]

theorem num_step (n : Nat) (h : 128 ≤ n) (hn : n < 18446744073709551616) : num n = UInt8.ofNat (n % 128 + 128) :: num (n / 128) := by
  unfold num
  rw [numF, if_neg (by omega), ← numF_more 8 (n / 128) (by omega)]

theorem num_length (n : Nat) : (num n).length ≤ 10 ∧ 1 ≤ (num n).length := by
  have : ∀ f n, (numF f n).length ≤ f + 1 ∧ 1 ≤ (numF f n).length := by
    intro f
    induction f with
    | zero => intro n; simp [numF]
    | succ f ih =>
      intro n
      rw [numF]
      by_cases c : n < 128
      · rw [if_pos c]; simp
      · rw [if_neg c]
        have := ih (n / 128)
        simp; omega
  exact this 9 n

/-- A text's bytes. -/
def text (t : List UInt8) : List UInt8 := num t.length ++ t

/-- The code's search for a number: r bytes may still be looked at, i were; acc: what they say. -/
def scan (l : List UInt8) : Nat → Nat → Nat → Nat × Nat
  | 0, _, _ => (0, 0)
  | r + 1, i, acc =>
    if i = 9 ∧ 1 < (l.getD i 0).toNat then (0, 0)
    else if 128 ≤ (l.getD i 0).toNat then scan l r (i + 1) (acc + (l.getD i 0).toNat % 128 * 128 ^ i)
    else if (l.getD i 0).toNat = 0 ∧ 0 < i then (0, 0)
    else (acc + (l.getD i 0).toNat % 128 * 128 ^ i, i + 1)

/-- The number in front, and how many bytes it has (0: none stands there). -/
def front (l : List UInt8) : Nat × Nat := scan l (min l.length 10) 0 0

end Go.Proofs.Ytahiaifdfgkemaa.Ink
