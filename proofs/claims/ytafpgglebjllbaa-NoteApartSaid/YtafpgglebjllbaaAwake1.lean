/-
  quadrillelaw01.awake: its contract.
-/
import Derived.Test.YtafpgglebjllbaaEye
import Derived.Test.YtafpgglebjllbaaInkN
import Derived.Test.YtafpgglebjllbaaSame
namespace Go.Proofs.Ytafpgglebjllbaa
open Go.RowKit

theorem PenAt.low {S : Nat → Prop} {w w' : World} {base b : Nat} {v : Value} {l : List UInt8} {bad : Bool} (h : PenAt w base b v l bad) (hk : Keeps S w w') (hS : ∀ k, S k → penS b v k) (hb : base ≤ w.heap.size) : Below base w w' :=
  hk.below hb fun i hi => by
    rcases hS i hi with rfl | h'
    · exact h.2.2.2
    · exact (h.2.1.lt i h').1

theorem EyeAt.low {w w' : World} {base b : Nat} {v : Value} {r : List UInt8} {f : Bool} (h : EyeAt w base b v r f) (hk : Keeps (fun k => k = b) w w') (hb : base ≤ w.heap.size) : Below base w w' :=
  hk.below hb fun i hi => by subst hi; exact h.2.2.2

theorem EyeAt.base {w : World} {b0 b1 b : Nat} {v : Value} {r : List UInt8} {f : Bool} (h : EyeAt w b1 b v r f) (hb : b0 ≤ b1) : EyeAt w b0 b v r f :=
  ⟨h.1, h.2.1, fun k hk => ⟨(h.2.2.1 k hk).1, Nat.le_trans hb (h.2.2.1 k hk).2.1, (h.2.2.1 k hk).2.2⟩, Nat.le_trans hb h.2.2.2⟩

def seen : List UInt8 := [172, 2, 2, 97, 98]
theorem seen_eq : ([] ++ Ink.num 300) ++ Ink.text [97, 98] = seen := by decide
theorem none_there : Ink.front [128, 0] = (0, 0) := by decide

end Go.Proofs.Ytafpgglebjllbaa
