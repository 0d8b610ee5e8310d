/-
  A pen's Text, of longer texts: its contract.
-/
import Derived.Test.YtahiaifdfgkemaaPen2
namespace Go.Proofs.Ytahiaifdfgkemaa
open Go.RowKit

end Go.Proofs.Ytahiaifdfgkemaa
