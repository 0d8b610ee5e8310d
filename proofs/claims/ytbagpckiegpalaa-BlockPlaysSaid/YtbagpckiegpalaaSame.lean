/-
  quadrilleref01.Same: its contract.
-/
import Derived.Test.YtbagpckiegpalaaClone
namespace Go.Proofs.Ytbagpckiegpalaa
open Go.RowKit

set_option maxHeartbeats 400000 in
theorem same_any (u v : Value) (l m : List UInt8) (w : World) (hu : Rd w u l) (hv : Rd w v m) :
    Calls Try.prog 29 #[u, v] w fun e w' => e = .returned (.bool (l == m)) ∧ w = w' := by
  have h1 := text_of hu
  have h2 := text_of hv
  obtain ⟨a, cap, rfl, _⟩ := hu
  obtain ⟨a', cap', rfl, _⟩ := hv
  go_enter Try.func29, Try.ntmps29
  go_wp2
  go_ret
  exact ⟨rfl, rfl⟩

/-- Two slices that read alike. -/
theorem same_eq (u v : Value) (l : List UInt8) (w : World) (hu : Rd w u l) (hv : Rd w v l) :
    Calls Try.prog 29 #[u, v] w fun e w' => e = .returned (.bool true) ∧ w = w' :=
  (same_any u v l l w hu hv).mono fun e w' h => ⟨by rw [h.1, beq_self_eq_true], h.2⟩

end Go.Proofs.Ytbagpckiegpalaa
