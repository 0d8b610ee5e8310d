/-
  ink.front: its contract.
-/
import Derived.Test.YtahiaifdfgkemaaPenKit
import Derived.Test.YtahiaifdfgkemaaInkM
namespace Go.Proofs.Ytahiaifdfgkemaa
open Go.RowKit

theorem acc_step (acc x j : Nat) (h : acc < 128 ^ j) : acc + x % 128 * 128 ^ j < 128 ^ (j + 1) := by
  have h1 : x % 128 ≤ 127 := by omega
  have h2 : x % 128 * 128 ^ j ≤ 127 * 128 ^ j := Nat.mul_le_mul_right _ h1
  rw [Nat.pow_succ]
  omega

theorem andnot128 (x : UInt8) : Go.bits .andNot .u8 (x.toNat : Int) 128 = ((x.toNat % 128 : Nat) : Int) := by
  have h := u8_andNot_nat x.toNat 128 x.toNat_lt (by omega)
  have h2 : ∀ y : Fin 256, y.val &&& (255 - 128) = y.val % 128 := by decide +kernel
  rw [show ((128 : Int)) = ((128 : Nat) : Int) from rfl, h, h2 ⟨x.toNat, x.toNat_lt⟩]

theorem or_step (acc : Nat) (x : UInt8) (j : Nat) (hj : j ≤ 9) (h : acc < 128 ^ j) (h9 : j = 9 → x.toNat ≤ 1) :
    Go.bits .or .u64 (acc : Int) (IntKind.u64.wrap (IntKind.u64.wrap (Go.bits .andNot .u8 (x.toNat : Int) 128) * 2 ^ (7 * j))) = ((acc + x.toNat % 128 * 128 ^ j : Nat) : Int) := by
  have hp : (128 : Nat) ^ j = 2 ^ (7 * j) := by rw [Nat.pow_mul]
  have hx : x.toNat % 128 < 128 := Nat.mod_lt _ (by omega)
  have hb : x.toNat % 128 * 2 ^ (7 * j) < 18446744073709551616 := by
    by_cases c : j = 9
    · subst c
      have := h9 rfl
      have : x.toNat % 128 ≤ 1 := by omega
      have h3 : x.toNat % 128 * 2 ^ (7 * 9) ≤ 1 * 2 ^ (7 * 9) := Nat.mul_le_mul_right _ this
      omega
    · have h1 : (2 : Nat) ^ (7 * j) ≤ 2 ^ 56 := Nat.pow_le_pow_right (by omega) (by omega)
      have h2 : x.toNat % 128 * 2 ^ (7 * j) ≤ 127 * 2 ^ 56 := Nat.mul_le_mul (by omega) h1
      omega
  have ha : acc < 18446744073709551616 := by
    rw [hp] at h
    have h1 : (2 : Nat) ^ (7 * j) ≤ 2 ^ 63 := Nat.pow_le_pow_right (by omega) (by omega)
    omega
  rw [andnot128, IntKind.wrap_u64, IntKind.wrap_u64]
  have e1 : ((x.toNat % 128 : Nat) : Int) % 18446744073709551616 = ((x.toNat % 128 : Nat) : Int) := by omega
  rw [e1]
  have e2 : ((x.toNat % 128 : Nat) : Int) * 2 ^ (7 * j) % 18446744073709551616 = ((x.toNat % 128 * 2 ^ (7 * j) : Nat) : Int) := by
    have : ((x.toNat % 128 : Nat) : Int) * 2 ^ (7 * j) = ((x.toNat % 128 * 2 ^ (7 * j) : Nat) : Int) := by simp
    rw [this]
    omega
  rw [e2, u64_or_nat _ _ ha hb, Nat.or_comm, nat_join (7 * j) _ _ (by rw [Nat.mul_mod_left]) (by rw [← hp]; exact h), hp, Nat.add_comm]

end Go.Proofs.Ytahiaifdfgkemaa
