/-
  An eye's memory; Read, Num, Left, End, fail: their contracts.
-/
import Derived.Test.YtnjfmnombioacaaPen2
import Derived.Test.YtnjfmnombioacaaFront
namespace Go.Proofs.Ytnjfmnombioacaa
open Go.RowKit

def eyeS (b : Nat) (v : Value) (k : Nat) : Prop := k = b ∨ v.ownBlock = some k

end Go.Proofs.Ytnjfmnombioacaa
