/-
  The iterator over the nodes of a row at which something holds: its contract.
-/
import Derived.Test.YtdongghjchnpbaaRowP
import Derived.RangeFuncNested
import Derived.RangeFuncBound
import Derived.RangeFuncBox
import Derived.RangeFuncCalls
import Derived.RangeFuncLeaves
import Derived.Shelf.Abstract
import Derived.Shelf.RegionOpen
import Derived.WalkKit
import Derived.OwnWalkIn
import Derived.TacticsInMore
import Derived.LoopNIn
import Derived.LoopIn
import Derived.BigRegionIn
import Derived.Stop.RegionWithIn
namespace Go.Proofs.Ytdongghjchnpbaa
open Go.RowKit Go.Shelf
set_option linter.unusedVariables false
attribute [local go_sem] Oper.semAt_some

/-- What a round may write: all but what lay ahead of the call, and what the iterator has captured. -/
def Apart (n0 lo hi : Nat) (k : Nat) : Prop := ¬ (k < n0 ∨ lo ≤ k ∧ k < hi)

theorem Keeps.block' {S : Nat → Prop} {w w' : World} (h : Keeps S w w') {k : Nat} {o : Obj} (hk : w.heap[k]? = some o) (hn : ¬ S k) : w'.heap[k]? = some o :=
  (h.block k (Array.getElem?_eq_some_iff.1 hk).1 hn).trans hk

theorem apart_low {n0 lo hi k : Nat} (h : k < n0) : ¬ Apart n0 lo hi k := fun hn => hn (.inl h)
theorem apart_in {n0 lo hi k : Nat} (h1 : lo ≤ k) (h2 : k < hi) : ¬ Apart n0 lo hi k := fun hn => hn (.inr ⟨h1, h2⟩)

/-- The nodes at which p holds. -/
def Mx.at (m : Mx) (p : Nat → Bool) : List Nat := (List.range m.n).filter p

theorem upto_hit (k : Nat) (p : Nat → Bool) (h : p k = true) : (List.range (k + 1)).filter p = (List.range k).filter p ++ [k] := by
  rw [List.range_succ, List.filter_append]; simp [h]
theorem upto_miss (k : Nat) (p : Nat → Bool) (h : p k = false) : (List.range (k + 1)).filter p = (List.range k).filter p := by
  rw [List.range_succ, List.filter_append]; simp [h]
theorem upto_le (k n : Nat) (p : Nat → Bool) (h : k ≤ n) : (List.range k).filter p <+: (List.range n).filter p := by
  obtain ⟨d, rfl⟩ := Nat.exists_eq_add_of_le h
  induction d with
  | zero => exact List.prefix_refl _
  | succ d ih =>
    refine (ih (by omega)).trans ?_
    cases hp : p (k + d) with
    | true => rw [show k + (d + 1) = (k + d) + 1 by omega, upto_hit _ _ hp]; exact List.prefix_append _ _
    | false => rw [show k + (d + 1) = (k + d) + 1 by omega, upto_miss _ _ hp]; exact List.prefix_refl _

/-- A node, as one of sixteen. -/
def nd (k : Nat) : Fin 16 := ⟨k % 16, Nat.mod_lt _ (by omega)⟩
theorem nd_val {k : Nat} (h : k < 16) : (nd k).val = k := Nat.mod_eq_of_lt h
theorem nd_map {l : List Nat} (h : ∀ k ∈ l, k < 16) : (l.map nd).map Fin.val = l := by
  rw [List.map_map]
  conv => rhs; rw [← List.map_id l]
  exact List.map_congr_left fun k hk => nd_val (h k hk)

theorem opens_yes (w : World) (b Bc : Nat) (m : Mx) (k c : Nat) (h : MxAt w b m) (hk : k < m.n) (hB : w.cell? ⟨Bc, 0, none⟩ = some (.pointer (some ⟨b, 0, none⟩))) :
    Calls Try.prog 70 #[.int .i64 k, .int .u32 (c : Nat), .pointer (some ⟨Bc, 0, none⟩)] w fun e w' => e = .returned (.bool (c == 0 && !m.d k)) ∧ w = w' := by
  have HH := hid h
  clear h
  by_cases h0 : c = 0
  · subst h0
    go_enter Try.func70, Try.ntmps70
    go_wp2_with (go_at_call 22; refine (isup_yes w b m k HH.out hk).mono ?_; rintro e w' ⟨rfl, rfl⟩)
    go_ret
    exact ⟨rfl, rfl⟩
  · obtain ⟨y, rfl⟩ : ∃ y, c = y + 1 := ⟨c - 1, by omega⟩
    have hy1 : ((((y : Nat) : Int) + 1) == 0) = false := by simp; omega
    clear h0
    go_enter Try.func70, Try.ntmps70
    go_wp2
    go_ret
    exact ⟨by simp, rfl⟩

theorem held_one (w : World) (Bc : Nat) (k c j : Nat) (hB : w.cell? ⟨Bc, 0, none⟩ = some (.int .u32 (j : Nat))) :
    Calls Try.prog 72 #[.int .i64 k, .int .u32 (c : Nat), .pointer (some ⟨Bc, 0, none⟩)] w fun e w' => e = .returned (.bool (c == j)) ∧ w = w' := by
  have hc : ((c : Int) == (j : Int)) = (c == j) := by rw [Bool.eq_iff_iff]; simp; omega
  have HC := hid hc
  clear hc
  go_enter Try.func72, Try.ntmps72
  go_wp2
  go_ret
  exact ⟨by rw [← HC.out]; rfl, rfl⟩

theorem taken_one (w : World) (k c : Nat) :
    Calls Try.prog 75 #[.int .i64 k, .int .u32 (c : Nat)] w fun e w' => e = .returned (.bool (c != 0)) ∧ w = w' := by
  have hc : ((c : Int) != 0) = (c != 0) := by
    rw [Bool.eq_iff_iff]; simp
  have HC := hid hc
  clear hc
  go_enter Try.func75, Try.ntmps75
  go_wp2
  go_ret
  exact ⟨by rw [← HC.out]; rfl, rfl⟩

end Go.Proofs.Ytdongghjchnpbaa
