/-
  Contracts: hasRow, hasNode, IsUp, Size, At, Up, New, Copy, goes, set.
-/
import Derived.Test.YtdongghjchnpbaaRowM
import Derived.LoopTactic
import Derived.RegionTactic
import Derived.Deep.QuietTactic
import Derived.BigQuiet
import Derived.BigRegion
namespace Go.Proofs.Ytdongghjchnpbaa
open Go.RowKit
set_option linter.unusedVariables false

theorem hasrow_yes (w : World) (b : Nat) (m : Mx) (k : Nat) (h : MxAt w b m) (hk : k < m.r) :
    Calls Try.prog 40 #[.pointer (some ⟨b, 0, none⟩), .int .i64 k] w fun e w' => e = .returned (.bool true) ∧ w = w' := by
  have hc := h.cr
  have h8 := h.r8
  have hki : (k : Int) < (m.r : Int) := by omega
  have HH := hid h
  clear h
  go_enter Try.func40, Try.ntmps40
  go_wp2
  go_ret
  exact ⟨rfl, rfl⟩

theorem hasrow_no (w : World) (b : Nat) (m : Mx) (k : Int) (h : MxAt w b m) (hk : k < 0 ∨ (m.r : Int) ≤ k) :
    Calls Try.prog 40 #[.pointer (some ⟨b, 0, none⟩), .int .i64 k] w fun e w' => e = .returned (.bool false) ∧ w = w' := by
  have hc := h.cr
  have h8 := h.r8
  have HH := hid h
  clear h
  by_cases h0 : k < 0
  · clear hk
    have h1 : decide (0 ≤ k) = false := by simpa using h0
    go_enter Try.func40, Try.ntmps40
    go_wp2
    go_ret
    exact ⟨rfl, rfl⟩
  · have h1 : (m.r : Int) ≤ k := by omega
    have h2 : 0 ≤ k := by omega
    have h3 : decide (k < (m.r : Int)) = false := by simpa using h1
    clear hk h0
    go_enter Try.func40, Try.ntmps40
    go_wp2
    go_ret
    exact ⟨rfl, rfl⟩

theorem hasrow_nil (w : World) (k : Int) :
    Calls Try.prog 40 #[.pointer none, .int .i64 k] w fun e w' => e = .returned (.bool false) ∧ w = w' := by
  go_enter Try.func40, Try.ntmps40
  go_wp2
  go_ret
  exact ⟨rfl, rfl⟩

theorem hasnode_yes (w : World) (b : Nat) (m : Mx) (k : Nat) (h : MxAt w b m) (hk : k < m.n) :
    Calls Try.prog 43 #[.pointer (some ⟨b, 0, none⟩), .int .i64 k] w fun e w' => e = .returned (.bool true) ∧ w = w' := by
  have hc := h.cn
  have h8 := h.n16
  have hki : (k : Int) < (m.n : Int) := by omega
  have HH := hid h
  clear h
  go_enter Try.func43, Try.ntmps43
  go_wp2
  go_ret
  exact ⟨rfl, rfl⟩

theorem hasnode_no (w : World) (b : Nat) (m : Mx) (k : Int) (h : MxAt w b m) (hk : k < 0 ∨ (m.n : Int) ≤ k) :
    Calls Try.prog 43 #[.pointer (some ⟨b, 0, none⟩), .int .i64 k] w fun e w' => e = .returned (.bool false) ∧ w = w' := by
  have hc := h.cn
  have h8 := h.n16
  have HH := hid h
  clear h
  by_cases h0 : k < 0
  · clear hk
    have h1 : decide (0 ≤ k) = false := by simpa using h0
    go_enter Try.func43, Try.ntmps43
    go_wp2
    go_ret
    exact ⟨rfl, rfl⟩
  · have h1 : (m.n : Int) ≤ k := by omega
    have h2 : 0 ≤ k := by omega
    have h3 : decide (k < (m.n : Int)) = false := by simpa using h1
    clear hk h0
    go_enter Try.func43, Try.ntmps43
    go_wp2
    go_ret
    exact ⟨rfl, rfl⟩

theorem hasnode_nil (w : World) (k : Int) :
    Calls Try.prog 43 #[.pointer none, .int .i64 k] w fun e w' => e = .returned (.bool false) ∧ w = w' := by
  go_enter Try.func43, Try.ntmps43
  go_wp2
  go_ret
  exact ⟨rfl, rfl⟩

/-- The document's IsUp. -/
def Mx.up (m : Mx) (k : Int) : Bool := decide (0 ≤ k) && decide (k < m.n) && !m.d k.toNat

theorem isup_yes (w : World) (b : Nat) (m : Mx) (k : Nat) (h : MxAt w b m) (hk : k < m.n) :
    Calls Try.prog 22 #[.pointer (some ⟨b, 0, none⟩), .int .i64 k] w fun e w' => e = .returned (.bool (!m.d k)) ∧ w = w' := by
  have h8 := h.n16
  have hc := h.cd k (by omega)
  have HH := hid h
  clear h
  go_enter Try.func22, Try.ntmps22
  go_wp2_with (go_at_call 43; refine (hasnode_yes w b m k HH.out hk).mono ?_; rintro e w' ⟨rfl, rfl⟩)
  go_ret
  exact ⟨rfl, rfl⟩

theorem isup_no (w : World) (b : Nat) (m : Mx) (k : Int) (h : MxAt w b m) (hk : k < 0 ∨ (m.n : Int) ≤ k) :
    Calls Try.prog 22 #[.pointer (some ⟨b, 0, none⟩), .int .i64 k] w fun e w' => e = .returned (.bool false) ∧ w = w' := by
  have HH := hid h
  have HK := hid hk
  clear h hk
  go_enter Try.func22, Try.ntmps22
  go_wp2_with (go_at_call 43; refine (hasnode_no w b m k HH.out HK.out).mono ?_; rintro e w' ⟨rfl, rfl⟩)
  go_ret
  exact ⟨rfl, rfl⟩

theorem isup_nil (w : World) (k : Int) :
    Calls Try.prog 22 #[.pointer none, .int .i64 k] w fun e w' => e = .returned (.bool false) ∧ w = w' := by
  go_enter Try.func22, Try.ntmps22
  go_wp2_with (go_at_call 43; refine (hasnode_nil w k).mono ?_; rintro e w' ⟨rfl, rfl⟩)
  go_ret
  exact ⟨rfl, rfl⟩

theorem size_any (w : World) (b : Nat) (m : Mx) (h : MxAt w b m) :
    Calls Try.prog 44 #[.pointer (some ⟨b, 0, none⟩)] w fun e w' => e = .returned (.tuple #[.int .i64 m.r, .int .i64 m.n]) ∧ ∃ n, w' = w.drewN n := by
  have hc := h.cr
  have hc2 := h.cn
  have HH := hid h
  clear h
  go_enter Try.func44, Try.ntmps44
  go_wp2
  go_quiet (fail)
  go_wp2
  go_ret2
  exact ⟨rfl, _, rfl⟩

theorem size_nil (w : World) :
    Calls Try.prog 44 #[.pointer none] w fun e w' => e = .returned (.tuple #[.int .i64 0, .int .i64 0]) ∧ w = w' := by
  go_enter Try.func44, Try.ntmps44
  go_wp2
  go_ret2
  exact ⟨rfl, rfl⟩

end Go.Proofs.Ytdongghjchnpbaa
