/-
  knot.number, knot.split: their contracts.
-/
import Derived.Test.YtahiaifdfgkemaaSum
import Derived.Test.YtahiaifdfgkemaaKnotM
import Derived.Deep.QuietTactic
import Derived.BigQuiet
namespace Go.Proofs.Ytahiaifdfgkemaa
open Go.RowKit

theorem shl_word (x : UInt8) (k : Nat) : (x.toNat : Int) % 4294967296 * 2 ^ (8 * k) % 4294967296 = ((x.toBitVec.setWidth 32 <<< (8 * k)).toNat : Int) := by
  have hx : x.toNat < 256 := x.toNat_lt
  rw [BitVec.toNat_shiftLeft, Nat.shiftLeft_eq, BitVec.toNat_setWidth]
  rw [show (x.toNat : Int) % 4294967296 = (x.toNat : Int) by omega]
  show _ = (((x.toNat % 4294967296) * 2 ^ (8 * k) % 4294967296 : Nat) : Int)
  rw [Nat.mod_eq_of_lt (show x.toNat < 4294967296 by omega)]
  simp

theorem i64_or_nat (a b : Nat) (ha : a < 256) (hb : b < 65536) : Go.bits .or .i64 (a : Int) (b : Int) = ((a ||| b : Nat) : Int) := by
  show IntKind.i64.wrap ((BitVec.ofInt 64 (a : Int) ||| BitVec.ofInt 64 (b : Int)).toNat : Int) = _
  rw [BitVec.toNat_or, ofInt_u64 a (by omega), ofInt_u64 b (by omega)]
  have : a ||| b < 2 ^ 16 := Nat.or_lt_two_pow (by omega) (by omega)
  rw [IntKind.wrap_i64]
  omega

theorem size_val (x0 x1 : UInt8) : Go.bits .or .i64 (wrap64 (x0.toNat : Int)) (wrap64 (wrap64 (x1.toNat : Int) * 256)) = ((x0.toNat + 256 * x1.toNat : Nat) : Int) := by
  have h0 : x0.toNat < 256 := x0.toNat_lt
  have h1 : x1.toNat < 256 := x1.toNat_lt
  rw [IntWalk.wrap64_in _ ⟨by omega, by omega⟩, IntWalk.wrap64_in (x1.toNat : Int) ⟨by omega, by omega⟩, IntWalk.wrap64_in _ ⟨by omega, by omega⟩]
  rw [show (x1.toNat : Int) * 256 = ((256 * x1.toNat : Nat) : Int) by omega, i64_or_nat _ _ (by omega) (by omega), Nat.or_comm]
  congr 1
  rw [nat_join 8 (256 * x1.toNat) x0.toNat (by omega) (by omega)]
  omega

/-- A call that leaves the world alone, inside a region that draws, behind another one. -/
theorem quiet_from {P : Program} {f : FuncId} {args : Array Value} {w : World} {a n : Nat} {v : Value} (h : Calls P f args (w.drewN (a + n)) fun e w' => e = .returned v ∧ w.drewN (a + n) = w') :
    Calls P f args (w.drewN (a + n)) fun e w' => e = .returned v ∧ ∃ m, w' = w.drewN (a + m) :=
  h.mono fun _ _ h => ⟨h.1, n, h.2.symm⟩

theorem Rd.drewN {w : World} {v : Value} {l : List UInt8} (h : Rd w v l) (n : Nat) : Rd (w.drewN n) v l := h

end Go.Proofs.Ytahiaifdfgkemaa
