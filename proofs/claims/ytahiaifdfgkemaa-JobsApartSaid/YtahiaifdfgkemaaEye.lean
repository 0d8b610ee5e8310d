/-
  An eye's memory; Read, Num, Left, End, fail: their contracts.
-/
import Derived.Test.YtahiaifdfgkemaaPen2
import Derived.Test.YtahiaifdfgkemaaFront
namespace Go.Proofs.Ytahiaifdfgkemaa
open Go.RowKit

def eyeS (b : Nat) (v : Value) (k : Nat) : Prop := k = b ∨ v.ownBlock = some k

end Go.Proofs.Ytahiaifdfgkemaa
