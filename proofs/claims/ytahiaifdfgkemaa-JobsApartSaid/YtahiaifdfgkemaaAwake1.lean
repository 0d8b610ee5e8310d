/-
  quadrillelaw01.awake: its contract.
-/
import Derived.Test.YtahiaifdfgkemaaEye
import Derived.Test.YtahiaifdfgkemaaInkN
import Derived.Test.YtahiaifdfgkemaaSame
namespace Go.Proofs.Ytahiaifdfgkemaa
open Go.RowKit

theorem PenAt.low {S : Nat → Prop} {w w' : World} {base b : Nat} {v : Value} {l : List UInt8} {bad : Bool} (h : PenAt w base b v l bad) (hk : Keeps S w w') (hS : ∀ k, S k → penS b v k) (hb : base ≤ w.heap.size) : Below base w w' :=
  hk.below hb fun i hi => by
    rcases hS i hi with rfl | h'
    · exact h.2.2.2
    · exact (h.2.1.lt i h').1

def seen : List UInt8 := [172, 2, 2, 97, 98]
theorem seen_eq : ([] ++ Ink.num 300) ++ Ink.text [97, 98] = seen := by decide
theorem none_there : Ink.front [128, 0] = (0, 0) := by decide

end Go.Proofs.Ytahiaifdfgkemaa
