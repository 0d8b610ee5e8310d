/-
  The document's answer for a number and a text: their contracts.
-/
import Derived.Test.YtnjfmnombioacaaKit
import Derived.Test.YtnjfmnombioacaaInkM
namespace Go.Proofs.Ytnjfmnombioacaa
open Go.RowKit

end Go.Proofs.Ytnjfmnombioacaa
