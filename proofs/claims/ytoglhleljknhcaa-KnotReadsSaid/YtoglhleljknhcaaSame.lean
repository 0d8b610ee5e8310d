/-
  quadrilleref01.Same: its contract.
-/
import Derived.Test.YtoglhleljknhcaaClone
namespace Go.Proofs.Ytoglhleljknhcaa
open Go.RowKit

set_option maxHeartbeats 400000 in
theorem same_any (u v : Value) (l m : List UInt8) (w : World) (hu : Rd w u l) (hv : Rd w v m) :
    Calls Try.prog 18 #[u, v] w fun e w' => e = .returned (.bool (l == m)) ∧ w = w' := by
  have h1 := text_of hu
  have h2 := text_of hv
  obtain ⟨a, cap, rfl, _⟩ := hu
  obtain ⟨a', cap', rfl, _⟩ := hv
  go_enter Try.func18, Try.ntmps18
  go_wp2
  go_ret
  exact ⟨rfl, rfl⟩

end Go.Proofs.Ytoglhleljknhcaa
