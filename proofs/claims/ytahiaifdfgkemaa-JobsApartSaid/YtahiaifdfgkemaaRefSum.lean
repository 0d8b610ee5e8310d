/-
  quadrilleref02.Sum: the division of polynomials, walked.
-/
import Derived.Test.YtahiaifdfgkemaaBools
namespace Go.Proofs.Ytahiaifdfgkemaa
open Go.RowKit

theorem bit_test (x : UInt8) (r : Nat) : ((((x.toNat : Int) / 2 ^ r).tmod 2) == 1) = x.toBitVec.getLsbD r := by
  have h : x.toBitVec.getLsbD r = decide (x.toNat / 2 ^ r % 2 = 1) := by
    show x.toNat.testBit r = _
    rw [Nat.testBit_eq_decide_div_mod_eq]
  rw [h]
  have e : ((x.toNat : Int) / 2 ^ r).tmod 2 = ((x.toNat / 2 ^ r % 2 : Nat) : Int) := by
    have e1 : (x.toNat : Int) / 2 ^ r = ((x.toNat / 2 ^ r : Nat) : Int) := by simp
    rw [e1, Int.tmod_eq_emod_of_nonneg (Int.natCast_nonneg _)]
    rfl
  rw [e]
  by_cases c : x.toNat / 2 ^ r % 2 = 1
  · simp [c]
  · rw [decide_eq_false c, beq_eq_false_iff_ne]
    intro e2
    exact c (by omega)

/-- A list of N bools that has the values f from place i on. -/
def From (l : List Bool) (N i : Nat) (f : Nat → Bool) : Prop := l.length = N ∧ ∀ k, i ≤ k → k < N → l.getD k false = f k

theorem From.set {l : List Bool} {N i : Nat} {f : Nat → Bool} (h : From l N i f) (j : Nat) (b : Bool) (f' : Nat → Bool) (hj : j < N) (hf : ∀ k, i ≤ k → k < N → f' k = if k = j then b else f k) : From (l.set j b) N i f' := by
  refine ⟨by rw [List.length_set]; exact h.1, fun k hi hk => ?_⟩
  rw [hf k hi hk]
  by_cases e : k = j
  · subst e
    simp [h.1, hj]
  · rw [if_neg e, ← h.2 k hi hk]
    simp only [List.getD_eq_getElem?_getD]
    rw [List.getElem?_set_ne (fun e' => e e'.symm)]

def byA : Array Value := (byL.map fun (b : Nat) => Value.int .i64 (b : Int)).toArray

theorem byA_get (t : Nat) (ht : t < 17) : byA[t]? = some (.int .i64 ((byL.getD t 0 : Nat) : Int)) := by
  have hl : t < byL.length := ht
  unfold byA
  simp [List.getElem?_map, List.getElem?_eq_getElem hl]

theorem byL_le (t : Nat) (ht : t < 17) : byL.getD t 0 ≤ 28 := by
  have : ∀ x : Fin 17, byL.getD x.val 0 ≤ 28 := by decide
  exact this ⟨t, ht⟩

/-- What is left of the division, turned: the sum. -/
theorem sum_left (p : List UInt8) (j : Nat) (hj : j < 32) : (Crc.sum p).getLsbD j = !(divTo p (8 * p.length) (8 * p.length + j)) := by
  have hb : Crc.bitAt p (8 * p.length + j) = false := by
    unfold Crc.bitAt
    simp [List.getElem?_eq_none (show p.length ≤ (8 * p.length + j) / 8 by omega)]
  unfold divTo Crc.sum
  rw [hb, Crc.fold_bits, BitVec.getLsbD_not, decide_eq_true (show 8 * p.length ≤ 8 * p.length + j by omega), show 8 * p.length + j - 8 * p.length = j by omega]
  simp [hj]

theorem shr_step (R : BitVec 32) (t : Nat) : (R >>> t).toNat = 2 * (R >>> (t + 1)).toNat + (if R.getLsbD t then 1 else 0) := by
  have h0 : (R >>> (t + 1)).toNat = (R >>> t).toNat / 2 := by
    rw [BitVec.toNat_ushiftRight, BitVec.toNat_ushiftRight, Nat.shiftRight_succ]
  have h1 : R.getLsbD t = decide ((R >>> t).toNat % 2 = 1) := by
    have : (R >>> t).getLsbD 0 = R.getLsbD t := by rw [BitVec.getLsbD_ushiftRight]; simp
    rw [← this]
    simp [BitVec.getLsbD, Nat.testBit_zero]
  rw [h0, h1]
  generalize (R >>> t).toNat = q
  by_cases c : q % 2 = 1
  · rw [if_pos (by simpa using c)]; omega
  · rw [if_neg (by simpa using c)]; omega

theorem shr_bound (R : BitVec 32) (t : Nat) (ht : 0 < t) : 2 * (R >>> t).toNat + 1 < 4294967296 := by
  obtain ⟨q, rfl⟩ := Nat.exists_eq_succ_of_ne_zero (show t ≠ 0 by omega)
  have h0 : (R >>> (q + 1)).toNat = (R >>> q).toNat / 2 := by
    rw [BitVec.toNat_ushiftRight, BitVec.toNat_ushiftRight, Nat.shiftRight_succ]
  have := (R >>> q).isLt
  show 2 * (R >>> (q + 1)).toNat + 1 < _
  omega

theorem bitAt_beyond (p : List UInt8) (k : Nat) (h : 8 * p.length ≤ k) : Crc.bitAt p k = false := by
  unfold Crc.bitAt
  simp [List.getElem?_eq_none (show p.length ≤ k / 8 by omega)]

end Go.Proofs.Ytahiaifdfgkemaa
