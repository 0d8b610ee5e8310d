/-
  quadrilleref02.Tie: its contract.
-/
import Derived.Test.YtahiaifdfgkemaaRefSum
import Derived.Test.YtahiaifdfgkemaaKnotM
namespace Go.Proofs.Ytahiaifdfgkemaa
open Go.RowKit

theorem b0 (S : BitVec 32) : (S.toNat : Int) % 256 = ((Knot.byteOf S 0).toNat : Int) := by
  have := Knot.byteOf_val S 0
  simpa using this
theorem b1 (S : BitVec 32) : (S.toNat : Int) / 256 % 256 = ((Knot.byteOf S 1).toNat : Int) := Knot.byteOf_val S 1
theorem b2 (S : BitVec 32) : (S.toNat : Int) / 65536 % 256 = ((Knot.byteOf S 2).toNat : Int) := Knot.byteOf_val S 2
theorem b3 (S : BitVec 32) : (S.toNat : Int) / 16777216 = ((Knot.byteOf S 3).toNat : Int) := by
  have h : (S.toNat : Int) / 16777216 % 256 = ((Knot.byteOf S 3).toNat : Int) := Knot.byteOf_val S 3
  have := S.isLt
  rw [← h]
  omega

end Go.Proofs.Ytahiaifdfgkemaa
