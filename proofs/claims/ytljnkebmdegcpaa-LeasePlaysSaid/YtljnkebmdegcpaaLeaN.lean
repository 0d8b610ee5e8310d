/-
  A book's calls but Tick and New.
-/
import Derived.Test.YtljnkebmdegcpaaLeaC
import Derived.Deep.RegionWith
import Derived.WalkSpells
import Derived.WalkLawsBesides
namespace Go.Proofs.Ytljnkebmdegcpaa
open Go.RowKit
set_option linter.unusedVariables false

/-- Where a node's cells begin. -/
def ndp (g : Nat) (l : List Nd) (i : Int) : Option Addr := if i < 0 ∨ (l.length : Int) ≤ i then none else some ⟨g, i.toNat * 4, none⟩

set_option maxHeartbeats 1000000 in
theorem at_in (w : World) (b g : Nat) (l : List Nd) (i : Nat) (h : BkAt w b g l) (hi : i < l.length) :
    Calls Try.prog 18 #[.pointer (some ⟨b, 0, none⟩), .int .i64 (i : Int)] w fun e w' => e = .returned (.pointer (some ⟨g, i * 4, none⟩)) ∧ w = w' := by
  have c0 := h.sl
  have e0 : decide ((i : Int) < 0) = false := decide_eq_false (by omega)
  have e1 : decide ((i : Int) ≥ (l.length : Int)) = false := decide_eq_false (by omega)
  have e2 : decide ((l.length : Int) ≤ (i : Int)) = false := decide_eq_false (by omega)
  have hii : (i : Int) < (l.length : Int) := by omega
  clear h
  generalize l.length = n at *
  go_enter Try.func18, Try.ntmps18
  go_wp2
  go_ret
  exact ⟨rfl, rfl⟩

set_option maxHeartbeats 1000000 in
theorem at_out (w : World) (b g : Nat) (l : List Nd) (i : Int) (h : BkAt w b g l) (hi : i < 0 ∨ (l.length : Int) ≤ i) :
    Calls Try.prog 18 #[.pointer (some ⟨b, 0, none⟩), .int .i64 i] w fun e w' => e = .returned (.pointer none) ∧ w = w' := by
  have c0 := h.sl
  clear h
  generalize l.length = n at *
  by_cases h0 : i < 0
  · have e0 : decide (i < 0) = true := decide_eq_true h0
    clear hi h0
    go_enter Try.func18, Try.ntmps18
    go_wp2
    go_ret
    exact ⟨rfl, rfl⟩
  · have e0 : decide (i < 0) = false := decide_eq_false h0
    have e1 : decide (i ≥ (n : Int)) = true := decide_eq_true (by omega)
    have e2 : decide ((n : Int) ≤ i) = true := decide_eq_true (by omega)
    clear hi h0
    go_enter Try.func18, Try.ntmps18
    go_wp2
    go_ret
    exact ⟨rfl, rfl⟩

set_option maxHeartbeats 1000000 in
theorem at_nil (w : World) (i : Int) : Calls Try.prog 18 #[.pointer none, .int .i64 i] w fun e w' => e = .returned (.pointer none) ∧ w = w' := by
  go_enter Try.func18, Try.ntmps18
  go_wp2
  go_ret
  exact ⟨rfl, rfl⟩

theorem at_any (w : World) (b g : Nat) (l : List Nd) (i : Int) (h : BkAt w b g l) :
    Calls Try.prog 18 #[.pointer (some ⟨b, 0, none⟩), .int .i64 i] w fun e w' => e = .returned (.pointer (ndp g l i)) ∧ w = w' := by
  unfold ndp
  by_cases hi : i < 0 ∨ (l.length : Int) ≤ i
  · rw [if_pos hi]; exact at_out w b g l i h hi
  · rw [if_neg hi]
    obtain ⟨k, rfl⟩ : ∃ k : Nat, i = (k : Int) := ⟨i.toNat, by omega⟩
    exact at_in w b g l k h (by omega)

set_option maxHeartbeats 1000000 in
theorem quiet_any (w : World) (b g : Nat) (l : List Nd) (i now : Nat) (h : BkAt w b g l) (hi : i < l.length) (hn : now ≤ 4294967295) :
    Calls Try.prog 20 #[.pointer (some ⟨g, i * 4, none⟩), .int .u32 (now : Int)] w fun e w' => e = .returned (.bool (qui now (nd l i))) ∧ w = w' := by
  obtain ⟨-, -, c2, -⟩ := h.cells hi
  have hx := (h.ok _ (nd_mem hi)).2.2.1
  unfold qui
  generalize (nd l i).2.2.1 = x at *
  by_cases h1 : (x : Int) ≤ (now : Int)
  · have e1 : decide ((x : Int) ≤ (now : Int)) = true := decide_eq_true h1
    by_cases h2 : x + 4 ≤ now
    · have e2 : decide (((now : Int) - (x : Int)) % 4294967296 ≥ 4) = true := decide_eq_true (by omega)
      have e3 : decide ((now : Int) - (x : Int) ≥ 4) = true := decide_eq_true (by omega)
      have e4 : decide (x + 4 ≤ now) = true := decide_eq_true h2
      have e5 : decide ((4 : Int) ≤ (now : Int) - (x : Int)) = true := decide_eq_true (by omega)
      have e6 : x ≤ now := by omega
      rw [e4]
      clear h h1 h2
      go_enter Try.func20, Try.ntmps20
      go_wp2
      go_ret
      exact ⟨rfl, rfl⟩
    · have e2 : decide (((now : Int) - (x : Int)) % 4294967296 ≥ 4) = false := decide_eq_false (by omega)
      have e3 : decide ((now : Int) - (x : Int) ≥ 4) = false := decide_eq_false (by omega)
      have e4 : decide (x + 4 ≤ now) = false := decide_eq_false h2
      have e5 : decide ((4 : Int) ≤ (now : Int) - (x : Int)) = false := decide_eq_false (by omega)
      have e6 : x ≤ now := by omega
      rw [e4]
      clear h h1 h2
      go_enter Try.func20, Try.ntmps20
      go_wp2
      go_ret
      exact ⟨rfl, rfl⟩
  · have e1 : decide ((x : Int) ≤ (now : Int)) = false := decide_eq_false h1
    have e4 : decide (x + 4 ≤ now) = false := decide_eq_false (by omega)
    have e6 : ¬ x ≤ now := by omega
    rw [e4]
    clear h h1
    go_enter Try.func20, Try.ntmps20
    go_wp2
    go_ret
    exact ⟨rfl, rfl⟩

set_option maxRecDepth 100000 in
set_option maxHeartbeats 2000000 in
theorem ext_any (w : World) (b g : Nat) (l : List Nd) (i now : Nat) (h : BkAt w b g l) (hi : i < l.length) (hn : now ≤ 4294967295) :
    Calls Try.prog 19 #[.pointer (some ⟨g, i * 4, none⟩), .int .u32 (now : Int)] w fun e w' => e = .returned (.tuple #[]) ∧ BkAt w' b g (l.set i ((nd l i).1, (nd l i).2.1, (nd l i).2.2.1, max (nd l i).2.2.2 (lat now))) ∧ Keeps (fun k => k = g) w w' := by
  have hd : BkAt w.drew b g l := h.below (Below.refl _ _).drew
  obtain ⟨-, -, -, c3⟩ := hd.cells hi
  have hfr := hd.fr (i * 4 + 3)
  obtain ⟨h1, h2, h3, h4⟩ := hd.ok _ (nd_mem hi)
  have hll := lat_le now
  have HP := hid (hd.put hi 3 (.int .u32 ((max (nd l i).2.2.2 (lat now) : Nat) : Int)) ((nd l i).1, (nd l i).2.1, (nd l i).2.2.1, max (nd l i).2.2.2 (lat now)) (by omega) rfl ⟨h1, h2, h3, by show max _ _ ≤ _; omega⟩)
  have HK := hid (show Keeps (fun k => k = g) w (w.drew.setCell ⟨g, i * 4 + 3, none⟩ (.int .u32 ((max (nd l i).2.2.2 (lat now) : Nat) : Int))) from ((Keeps.refl (fun k => k = g) w).drew).setCell (fun _ => rfl) _)
  have HL := hid (fun W => later_any (now : Int) 8 (by omega) (by omega) W)
  have HLE := hid (lat_of now)
  generalize hu : (nd l i).2.2.2 = u at *
  generalize lat now = z at *
  clear h hd h1 h2 h3
  by_cases hm : u < z
  · rw [Nat.max_eq_right (Nat.le_of_lt hm)] at *
    go_enter Try.func19, Try.ntmps19
    go_wp2_with fail
    go_region_with (first | (go_at_call 22; refine (HL.out _).mono ?_; rintro e w' ⟨rfl, rfl⟩; rw [HLE.out]) | fail)
    all_goals (go_wp2_with fail; go_end0)
    all_goals exact ⟨rfl, HP.out, HK.out⟩
  · rw [Nat.max_eq_left (Nat.le_of_not_lt hm)] at *
    go_enter Try.func19, Try.ntmps19
    go_wp2_with fail
    go_region_with (first | (go_at_call 22; refine (HL.out _).mono ?_; rintro e w' ⟨rfl, rfl⟩; rw [HLE.out]) | fail)
    all_goals (go_wp2_with fail; go_end0)
    all_goals exact ⟨rfl, HP.out, HK.out⟩

end Go.Proofs.Ytljnkebmdegcpaa
