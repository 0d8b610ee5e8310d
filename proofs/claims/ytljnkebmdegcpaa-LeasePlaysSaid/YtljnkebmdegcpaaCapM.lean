/-
  Plain words: the numbers of layer 3.
-/
import Derived.WalkKit
namespace Go.Proofs.Ytljnkebmdegcpaa.Cap

/-- Within 0 and the top. -/
def inn (n : Int) : Int := if n < 0 then 0 else if 1099511627776 < n then 1099511627776 else n

theorem inn_bd (n : Int) : 0 ≤ inn n ∧ inn n ≤ 1099511627776 := by unfold inn; split <;> (try split) <;> omega
theorem inn_lo (n : Int) (h : n < 0) : inn n = 0 := by unfold inn; rw [if_pos h]
theorem inn_hi (n : Int) (h : 1099511627776 < n) : inn n = 1099511627776 := by unfold inn; rw [if_neg (by omega), if_pos h]
theorem inn_in (n : Int) (h : 0 ≤ n) (h2 : n ≤ 1099511627776) : inn n = n := by unfold inn; rw [if_neg (by omega), if_neg (by omega)]
theorem inn_mono (a b : Int) (h : a ≤ b) : inn a ≤ inn b := by unfold inn; repeat' split <;> omega
theorem inn_inn (n : Int) : inn (inn n) = inn n := inn_in _ (inn_bd n).1 (inn_bd n).2

def add (a b : Int) : Int := inn (inn a + inn b)
def sub (a b : Int) : Int := inn (inn a - inn b)
def mul (a b : Int) : Int := inn (inn a * inn b)
def up (a b : Int) : Int := if inn b = 0 then 1099511627776 else (inn a + inn b - 1) / inn b
def keep (n lo hi : Int) : Int := if (if inn n < inn lo then inn lo else inn n) > inn hi then inn hi else if inn n < inn lo then inn lo else inn n
def later (t n : Int) : Int := if 4294967295 < t + inn n then 4294967295 else t + inn n

theorem add_bd (a b : Int) : 0 ≤ add a b ∧ add a b ≤ 1099511627776 := inn_bd _
theorem sub_bd (a b : Int) : 0 ≤ sub a b ∧ sub a b ≤ 1099511627776 := inn_bd _
theorem mul_bd (a b : Int) : 0 ≤ mul a b ∧ mul a b ≤ 1099511627776 := inn_bd _

theorem div_gt (x y : Int) (hy : 0 < y) : 1099511627776 / y < x ↔ 1099511627776 < x * y := Int.ediv_lt_iff_lt_mul hy

theorem mul_zero_l (a b : Int) (h : inn a = 0) : mul a b = 0 := by unfold mul; rw [h, Int.zero_mul]; rfl
theorem mul_zero_r (a b : Int) (h : inn b = 0) : mul a b = 0 := by unfold mul; rw [h, Int.mul_zero]; rfl
theorem mul_top (a b : Int) (h : 0 < inn b) (h2 : 1099511627776 / inn b < inn a) : mul a b = 1099511627776 := inn_hi _ ((div_gt _ _ h).1 h2)
theorem mul_val (a b : Int) (h : 0 < inn b) (h2 : ¬ 1099511627776 / inn b < inn a) : mul a b = inn a * inn b ∧ 0 ≤ inn a * inn b ∧ inn a * inn b ≤ 1099511627776 := by
  have h3 : ¬ 1099511627776 < inn a * inn b := fun h' => h2 ((div_gt _ _ h).2 h')
  have h4 : 0 ≤ inn a * inn b := Int.mul_nonneg (inn_bd a).1 (inn_bd b).1
  exact ⟨inn_in _ h4 (by omega), h4, by omega⟩

theorem up_zero (a b : Int) (h : inn b = 0) : up a b = 1099511627776 := by unfold up; rw [if_pos h]
theorem up_pos (a b : Int) (h : 0 < inn b) : up a b = (inn a + inn b - 1) / inn b := by unfold up; rw [if_neg (by omega)]

/-- The quotient, rounded up: the product with it is as much at least, and with one less it isn't. -/
theorem up_spec (a b : Int) (h : 0 < inn b) : inn a ≤ up a b * inn b ∧ up a b * inn b < inn a + inn b := by
  rw [up_pos a b h]
  have h1 := Int.ediv_mul_le (inn a + inn b - 1) (show inn b ≠ 0 by omega)
  have h2 := Int.lt_ediv_add_one_mul_self (inn a + inn b - 1) h
  rw [Int.add_mul, Int.one_mul] at h2
  omega

theorem up_bd (a b : Int) : 0 ≤ up a b ∧ up a b ≤ 1099511627776 := by
  have ha := inn_bd a
  have hb := inn_bd b
  by_cases h : inn b = 0
  · rw [up_zero a b h]; omega
  · have h0 : 0 < inn b := by omega
    have h1 := up_spec a b h0
    refine ⟨?_, ?_⟩
    · rw [up_pos a b h0]
      exact Int.ediv_nonneg (by omega) (by omega)
    · rw [up_pos a b h0]
      have h4 : (inn a + inn b - 1) / inn b < 1099511627776 + 1 := by
        rw [Int.ediv_lt_iff_lt_mul h0]
        have h5 : 1099511627776 * 1 ≤ 1099511627776 * inn b := Int.mul_le_mul_of_nonneg_left (by omega) (by omega)
        rw [Int.add_mul]
        omega
      omega

/-- By the quotient rounded down. -/
theorem up_down (a b : Int) (h : 0 < inn b) :
    (inn a / inn b * inn b < inn a → up a b = inn a / inn b + 1) ∧ (¬ inn a / inn b * inn b < inn a → up a b = inn a / inn b) := by
  have ha := inn_bd a
  have h1 := Int.ediv_mul_le (inn a) (show inn b ≠ 0 by omega)
  have h2 := Int.lt_ediv_add_one_mul_self (inn a) h
  rw [Int.add_mul, Int.one_mul] at h2
  refine ⟨fun h3 => ?_, fun h3 => ?_⟩
  · rw [up_pos a b h]
    refine Int.le_antisymm ?_ ?_
    · have : (inn a + inn b - 1) / inn b < inn a / inn b + 1 + 1 := by
        rw [Int.ediv_lt_iff_lt_mul h, Int.add_mul, Int.add_mul, Int.one_mul]
        omega
      omega
    · rw [Int.le_ediv_iff_mul_le h, Int.add_mul, Int.one_mul]
      omega
  · rw [up_pos a b h]
    refine Int.le_antisymm ?_ ?_
    · have : (inn a + inn b - 1) / inn b < inn a / inn b + 1 := by
        rw [Int.ediv_lt_iff_lt_mul h, Int.add_mul, Int.one_mul]
        omega
      omega
    · rw [Int.le_ediv_iff_mul_le h]
      omega

theorem add_mono (a b x : Int) (h : a ≤ b) : add a x ≤ add b x := inn_mono _ _ (by have := inn_mono a b h; omega)
theorem sub_mono (a b x : Int) (h : a ≤ b) : sub a x ≤ sub b x := inn_mono _ _ (by have := inn_mono a b h; omega)
theorem sub_anti (a b x : Int) (h : a ≤ b) : sub x b ≤ sub x a := inn_mono _ _ (by have := inn_mono a b h; omega)
theorem mul_mono (a b x : Int) (h : a ≤ b) : mul a x ≤ mul b x := inn_mono _ _ (Int.mul_le_mul_of_nonneg_right (inn_mono a b h) (inn_bd x).1)
theorem up_mono (a b x : Int) (h : a ≤ b) : up a x ≤ up b x := by
  by_cases h0 : inn x = 0
  · rw [up_zero a x h0, up_zero b x h0]; exact Int.le_refl _
  · have hx : 0 < inn x := by have := inn_bd x; omega
    rw [up_pos a x hx, up_pos b x hx]
    exact Int.ediv_le_ediv hx (by have := inn_mono a b h; omega)

theorem add_comm (a b : Int) : add a b = add b a := by unfold add; rw [Int.add_comm]
theorem mul_comm (a b : Int) : mul a b = mul b a := by unfold mul; rw [Int.mul_comm]
theorem add_assoc (a b c : Int) : add (add a b) c = add a (add b c) := by
  have h1 := inn_bd a
  have h2 := inn_bd b
  have h3 := inn_bd c
  unfold add
  rw [inn_inn, inn_inn]
  generalize inn a = x at *
  generalize inn b = y at *
  generalize inn c = z at *
  unfold inn
  repeat' split <;> omega

/-- What is added is taken away again, below the top. -/
theorem add_sub (a b : Int) (h : add a b ≠ 1099511627776) : sub (add a b) b = add a 0 := by
  have h1 := inn_bd a
  have h2 := inn_bd b
  have h0 : inn 0 = 0 := rfl
  unfold sub add at *
  rw [inn_inn, h0, Int.add_zero, inn_inn]
  have : ¬ 1099511627776 < inn a + inn b := fun h' => h (inn_hi _ h')
  rw [inn_in (inn a + inn b) (by omega) (by omega)]
  rw [show inn a + inn b - inn b = inn a by omega]
  exact inn_inn a

/-- So many parts are enough, and one fewer isn't. -/
theorem parts (a b : Int) (hb : 1 ≤ b) : add a 0 ≤ mul (up a b) b ∧ (up a b ≠ 0 → mul (up a b - 1) b < add a 0) := by
  have h1 := inn_bd a
  have hb1 : 0 < inn b := by unfold inn; split <;> (try split) <;> omega
  have h0 : add a 0 = inn a := by
    unfold add
    rw [show inn 0 = 0 from rfl, Int.add_zero, inn_inn]
  have hu := up_bd a b
  have hs := up_spec a b hb1
  rw [h0]
  refine ⟨?_, fun hne => ?_⟩
  · unfold mul
    rw [inn_in (up a b) hu.1 hu.2]
    have := inn_mono _ _ hs.1
    rwa [inn_inn] at this
  · unfold mul
    rw [inn_in (up a b - 1) (by omega) (by omega)]
    have h2 : (up a b - 1) * inn b = up a b * inn b - inn b := by rw [Int.sub_mul, Int.one_mul]
    have h3 : (up a b - 1) * inn b < inn a := by omega
    have h4 : 0 ≤ (up a b - 1) * inn b := Int.mul_nonneg (by omega) (by omega)
    rw [inn_in _ h4 (by omega)]
    exact h3

end Go.Proofs.Ytljnkebmdegcpaa.Cap
