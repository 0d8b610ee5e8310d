/-
  The document's answer for a number and a text: their contracts.
-/
import Derived.Test.YtahiaifdfgkemaaKit
import Derived.Test.YtahiaifdfgkemaaInkM
namespace Go.Proofs.Ytahiaifdfgkemaa
open Go.RowKit

end Go.Proofs.Ytahiaifdfgkemaa
