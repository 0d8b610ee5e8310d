/-
  Layer 5: kept, fate: contracts.
-/
import Derived.Test.YtbagpckiegpalaaSlabN
namespace Go.Proofs.Ytbagpckiegpalaa
open Go.RowKit

/-- The fate of the k-th write. -/
def fateOf (l : List UInt8) (k : Nat) : Nat := if k < l.length then (l.getD k 0).toNat % 4 else 0
def keptFrom (f : Nat) (cut : Nat) : Nat := if f = 3 then cut else 0
def keptUpto (f : Nat) (cut : Nat) : Nat := if f = 1 then 128 else if f = 2 then cut else if f = 3 then 128 else 0

theorem fateOf_lt (l : List UInt8) (k : Nat) : fateOf l k < 4 := by
  unfold fateOf
  split <;> omega

theorem fate_any (v : Value) (l : List UInt8) (k : Nat) (w : World) (h : Rd w v l) (hk : k ≤ 9223372036854775807) :
    Calls Try.prog 48 #[v, .int .i64 (k : Int)] w fun e w' => e = .returned (.int .u8 (fateOf l k : Int)) ∧ w = w' := by
  by_cases hlt : k < l.length
  · obtain ⟨b, off, cap, rfl, h1, hm, hb, hc⟩ := h.pos (by omega)
    have hc0 := hc k hlt
    have HF := hid (show fateOf l k = (l.getD k 0).toNat % 4 by unfold fateOf; rw [if_pos hlt])
    have hd : decide ((l.length : Int) ≤ (k : Int)) = false := by simp; omega
    have hd2 : ¬ (l.length : Int) ≤ (k : Int) := by omega
    obtain ⟨x, hx⟩ : ∃ x, x = l.getD k 0 := ⟨_, rfl⟩
    rw [← hx] at hc0 HF
    have hx255 : x.toNat < 256 := x.toNat_lt
    unfold bv at hc0
    obtain ⟨y, hy⟩ : ∃ y, y = x.toNat := ⟨_, rfl⟩
    rw [← hy] at hc0 HF hx255
    clear hc hx hy h
    unfold maxLen at hm
    go_enter Try.func48, Try.ntmps48
    go_wp2
    go_ret
    exact ⟨by rw [HF.out]; rfl, rfl⟩
  · have HF := hid (show fateOf l k = 0 by unfold fateOf; rw [if_neg hlt])
    obtain ⟨a, cap, rfl, _⟩ := h
    have hd2 : (l.length : Int) ≤ (k : Int) := by omega
    go_enter Try.func48, Try.ntmps48
    go_wp2
    go_ret
    exact ⟨by rw [HF.out]; rfl, rfl⟩

theorem kept_any (f cut : Nat) (w : World) (hf : f < 4) :
    Calls Try.prog 47 #[.int .u8 (f : Int), .int .i64 (cut : Int)] w fun e w' => e = .returned (.tuple #[.int .i64 (keptFrom f cut : Int), .int .i64 (keptUpto f cut : Int)]) ∧ w = w' := by
  have hf4 : f = 0 ∨ f = 1 ∨ f = 2 ∨ f = 3 := by omega
  rcases hf4 with rfl | rfl | rfl | rfl
  all_goals
    go_enter Try.func47, Try.ntmps47
    go_wp2
    go_ret2
    exact ⟨rfl, rfl⟩

end Go.Proofs.Ytbagpckiegpalaa
