/-
  Which notes are right: contracts.
-/
import Derived.Test.YtahiaifdfgkemaaNoteR
import Derived.Test.YtahiaifdfgkemaaNoteW
import Derived.Laws.Rows
namespace Go.Proofs.Ytahiaifdfgkemaa.Note

/-- The bits, up to the k-th. -/
theorem bits_take (l : List Nat) : ∀ (i k : Nat), k < l.length → bits (l.take (k + 1)) i = bits (l.take k) i + (if l.getD k 0 ≠ 0 then 2 ^ (i + k) else 0) := by
  induction l with
  | nil => intro i k hk; cases hk
  | cons x r ih =>
    intro i k hk
    cases k with
    | zero => simp [bits]
    | succ k =>
      have := ih (i + 1) k (by simpa using hk)
      simp only [List.take_succ_cons, bits, this, List.getD_cons_succ]
      rw [show i + 1 + k = i + (k + 1) by omega]
      omega

theorem bits_le (l : List Nat) : ∀ i, bits l i + 2 ^ i ≤ 2 ^ (i + l.length) := by
  induction l with
  | nil => intro i; simp [bits]
  | cons x r ih =>
    intro i
    have h1 := ih (i + 1)
    rw [show i + 1 + r.length = i + (r.length + 1) by omega, Nat.pow_succ 2 i] at h1
    simp only [bits, List.length_cons]
    split <;> omega

theorem bits_lt (l : List Nat) (i : Nat) : bits l i < 2 ^ (i + l.length) := by
  have := bits_le l i
  have : 0 < 2 ^ i := Nat.pow_pos (by omega)
  omega

end Go.Proofs.Ytahiaifdfgkemaa.Note
namespace Go.Proofs.Ytahiaifdfgkemaa
open Go.RowKit

theorem wrap_u64 (n : Int) : IntKind.u64.wrap n = (Note.u64 n : Int) := by
  rw [IntKind.wrap_u64]; unfold Note.u64; omega

theorem i64_or_nat2 (a b : Nat) (ha : a < 4096) (hb : b < 4096) : Go.bits .or .i64 (a : Int) (b : Int) = ((a ||| b : Nat) : Int) := by
  show IntKind.i64.wrap ((BitVec.ofInt 64 (a : Int) ||| BitVec.ofInt 64 (b : Int)).toNat : Int) = _
  rw [BitVec.toNat_or, ofInt_u64 a (by omega), ofInt_u64 b (by omega)]
  have : a ||| b < 2 ^ 12 := Nat.or_lt_two_pow (by omega) (by omega)
  rw [IntKind.wrap_i64]
  omega

theorem or_bit (a k : Nat) (ha : a < 2 ^ k) (hk : k ≤ 11) : Go.bits .or .i64 (a : Int) ((2 ^ k : Nat) : Int) = ((a + 2 ^ k : Nat) : Int) := by
  have h2 : 2 ^ k ≤ 2 ^ 11 := Nat.pow_le_pow_right (by omega) hk
  have h3 := Nat.two_pow_add_eq_or_of_lt ha 1
  rw [Nat.mul_one] at h3
  rw [i64_or_nat2 a (2 ^ k) (by omega) (by omega), Nat.or_comm, ← h3, Nat.add_comm]

theorem wrap_pow (k : Nat) (h : k ≤ 11) : Go.RowKit.wrap64 ((2 : Int) ^ k) = ((2 ^ k : Nat) : Int) := by
  have : k = 0 ∨ k = 1 ∨ k = 2 ∨ k = 3 ∨ k = 4 ∨ k = 5 ∨ k = 6 ∨ k = 7 ∨ k = 8 ∨ k = 9 ∨ k = 10 ∨ k = 11 := by omega
  rcases this with rfl | rfl | rfl | rfl | rfl | rfl | rfl | rfl | rfl | rfl | rfl | rfl <;> decide +kernel

theorem andnot_all : ∀ m ∈ [10, 15, 480, 32, 48, 16, 1584, 352, 2272, 40], ∀ a : Fin 64, ∀ b : Fin 64, (Go.bits .andNot .i64 ((64 * a.val + b.val : Nat) : Int) ((m : Nat) : Int) == 0) = decide ((64 * a.val + b.val) &&& (4095 - m) = 0) := by decide +kernel

theorem may_mem (k : Nat) (h : 1 ≤ k ∧ k ≤ 12) : Note.may k ∈ [10, 15, 480, 32, 48, 16, 1584, 352, 2272, 40] := by
  have : k = 1 ∨ k = 2 ∨ k = 3 ∨ k = 4 ∨ k = 5 ∨ k = 6 ∨ k = 7 ∨ k = 8 ∨ k = 9 ∨ k = 10 ∨ k = 11 ∨ k = 12 := by omega
  rcases this with rfl | rfl | rfl | rfl | rfl | rfl | rfl | rfl | rfl | rfl | rfl | rfl <;> decide

theorem has_lt (x : Note.N) : x.has < 4096 := by
  have := Note.bits_lt (x.rest ++ [x.b.length]) 0
  have e : (x.rest ++ [x.b.length]).length = 12 := by simp [Note.N.rest]
  rw [e] at this
  exact this

theorem andnot_is (x : Note.N) (h : 1 ≤ x.k ∧ x.k ≤ 12) : (Go.bits .andNot .i64 (x.has : Int) (Note.may x.k : Int) == 0) = x.clear := by
  have hl := has_lt x
  have h1 := andnot_all (Note.may x.k) (may_mem x.k h) ⟨x.has / 64, by omega⟩ ⟨x.has % 64, by omega⟩
  simp only at h1
  rw [Nat.div_add_mod] at h1
  exact h1

end Go.Proofs.Ytahiaifdfgkemaa
