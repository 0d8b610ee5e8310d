/-
  A pen's Text, of longer texts: its contract.
-/
import Derived.Test.YtnjfmnombioacaaPen2
namespace Go.Proofs.Ytnjfmnombioacaa
open Go.RowKit

end Go.Proofs.Ytnjfmnombioacaa
