/-
  Which requests, replies and packets are right: contracts.
-/
import Derived.Test.YtahiaifdfgkemaaNoteD
import Derived.Test.YtahiaifdfgkemaaKit
namespace Go.Proofs.Ytahiaifdfgkemaa
open Go.RowKit

set_option maxHeartbeats 400000 in
theorem asked_yes (n : Int) (w : World) (h0 : 0 ≤ n) (h1 : n ≤ 2147483647) : Calls Try.prog 45 #[.int .i64 n] w fun e w' => e = .returned (.bool true) ∧ w = w' := by
  go_enter Try.func45, Try.ntmps45
  go_wp2
  go_ret
  exact ⟨rfl, rfl⟩

set_option maxHeartbeats 400000 in
theorem asked_no (n : Int) (w : World) (h : ¬ (0 ≤ n ∧ n ≤ 2147483647)) : Calls Try.prog 45 #[.int .i64 n] w fun e w' => e = .returned (.bool false) ∧ w = w' := by
  by_cases h0 : 0 ≤ n
  · have h1 : ¬ n ≤ 2147483647 := by omega
    have h2 : 2147483647 < n := by omega
    clear h
    go_enter Try.func45, Try.ntmps45
    go_wp2
    go_ret
    exact ⟨rfl, rfl⟩
  · have h2 : n < 0 := by omega
    clear h
    go_enter Try.func45, Try.ntmps45
    go_wp2
    go_ret
    exact ⟨rfl, rfl⟩

set_option maxHeartbeats 2000000 in
theorem rightrequest_any (x : Note.Q) (w : World) :
    Calls Try.prog 42 #[.agg #[.int .u8 (x.cl : Int), .int .u32 (x.s : Int), .int .u8 (x.k : Int), .int .u8 (x.t : Int), .int .i64 x.kk, .int .i64 x.w, .int .u32 (x.j : Int)]] w fun e w' => e = .returned (.bool x.right) ∧ Below w.heap.size w w' := by
  by_cases c0 : x.cl < 8
  · skip
    have d0_0 : (x.cl : Int) < 8 := by omega
    have d0_1 : ¬ 8 ≤ (x.cl : Int) := by omega
    by_cases c1 : x.k = 1
    · skip
      have q1 : (((x.k : Nat) : Int) == 1) = true := by rw [beq_iff_eq]; omega
      have r1 : (((x.k : Nat) : Int) != 1) = false := by rw [bne_eq_false_iff_eq]; omega
      by_cases c2 : (0 ≤ x.kk ∧ x.kk ≤ 2147483647)
      · skip
        obtain ⟨c2a, c2b⟩ := c2
        by_cases c3 : (0 ≤ x.w ∧ x.w ≤ 2147483647)
        · skip
          obtain ⟨c3a, c3b⟩ := c3
          by_cases c4 : x.j = 0
          · skip
            have q4 : (((x.j : Nat) : Int) == 0) = true := by rw [beq_iff_eq]; omega
            have r4 : (((x.j : Nat) : Int) != 0) = false := by rw [bne_eq_false_iff_eq]; omega
            have R := hid (show x.right = true by unfold Note.Q.right; first | (simp [*]; done) | (simp [*]; omega))
            go_enter Try.func42, Try.ntmps42
            go_wp2_with fail
            refine (asked_yes _ _ (by assumption) (by assumption)).mono ?_
            rintro e w' ⟨rfl, rfl⟩
            go_wp2_with fail
            refine (asked_yes _ _ (by assumption) (by assumption)).mono ?_
            rintro e w' ⟨rfl, rfl⟩
            go_wp2
            go_ret
            exact ⟨(congrArg (fun b => Ending.returned (.bool b)) R.out).symm, (Below.refl _ _).alloc (Nat.le_refl _) _⟩
          · skip
            have q4 : (((x.j : Nat) : Int) == 0) = false := by rw [beq_eq_false_iff_ne]; omega
            have r4 : (((x.j : Nat) : Int) != 0) = true := by rw [bne_iff_ne]; omega
            have R := hid (show x.right = false by unfold Note.Q.right; first | (simp [*]; done) | (simp [*]; omega))
            go_enter Try.func42, Try.ntmps42
            go_wp2_with fail
            refine (asked_yes _ _ (by assumption) (by assumption)).mono ?_
            rintro e w' ⟨rfl, rfl⟩
            go_wp2_with fail
            refine (asked_yes _ _ (by assumption) (by assumption)).mono ?_
            rintro e w' ⟨rfl, rfl⟩
            go_wp2
            go_ret
            exact ⟨(congrArg (fun b => Ending.returned (.bool b)) R.out).symm, (Below.refl _ _).alloc (Nat.le_refl _) _⟩
        · skip
          have R := hid (show x.right = false by unfold Note.Q.right; first | (simp [*]; done) | (simp [*]; omega))
          go_enter Try.func42, Try.ntmps42
          go_wp2_with fail
          refine (asked_yes _ _ (by assumption) (by assumption)).mono ?_
          rintro e w' ⟨rfl, rfl⟩
          go_wp2_with fail
          refine (asked_no _ _ (by assumption)).mono ?_
          rintro e w' ⟨rfl, rfl⟩
          go_wp2
          go_ret
          exact ⟨(congrArg (fun b => Ending.returned (.bool b)) R.out).symm, (Below.refl _ _).alloc (Nat.le_refl _) _⟩
      · skip
        have R := hid (show x.right = false by unfold Note.Q.right; first | (simp [*]; done) | (simp [*]; omega))
        go_enter Try.func42, Try.ntmps42
        go_wp2_with fail
        refine (asked_no _ _ (by assumption)).mono ?_
        rintro e w' ⟨rfl, rfl⟩
        go_wp2
        go_ret
        exact ⟨(congrArg (fun b => Ending.returned (.bool b)) R.out).symm, (Below.refl _ _).alloc (Nat.le_refl _) _⟩
    · skip
      have q1 : (((x.k : Nat) : Int) == 1) = false := by rw [beq_eq_false_iff_ne]; omega
      have r1 : (((x.k : Nat) : Int) != 1) = true := by rw [bne_iff_ne]; omega
      by_cases c2 : x.k = 2
      · skip
        have q2 : (((x.k : Nat) : Int) == 2) = true := by rw [beq_iff_eq]; omega
        have r2 : (((x.k : Nat) : Int) != 2) = false := by rw [bne_eq_false_iff_eq]; omega
        by_cases c3 : x.t = 0
        · skip
          have q3 : (((x.t : Nat) : Int) == 0) = true := by rw [beq_iff_eq]; omega
          have r3 : (((x.t : Nat) : Int) != 0) = false := by rw [bne_eq_false_iff_eq]; omega
          by_cases c4 : x.kk = 0
          · skip
            have q4 : (((x.kk : Int) : Int) == 0) = true := by rw [beq_iff_eq]; omega
            have r4 : (((x.kk : Int) : Int) != 0) = false := by rw [bne_eq_false_iff_eq]; omega
            by_cases c5 : x.w = 0
            · skip
              have q5 : (((x.w : Int) : Int) == 0) = true := by rw [beq_iff_eq]; omega
              have r5 : (((x.w : Int) : Int) != 0) = false := by rw [bne_eq_false_iff_eq]; omega
              have R := hid (show x.right = true by unfold Note.Q.right; first | (simp [*]; done) | (simp [*]; omega))
              go_enter Try.func42, Try.ntmps42
              go_wp2
              go_ret
              exact ⟨(congrArg (fun b => Ending.returned (.bool b)) R.out).symm, (Below.refl _ _).alloc (Nat.le_refl _) _⟩
            · skip
              have q5 : (((x.w : Int) : Int) == 0) = false := by rw [beq_eq_false_iff_ne]; omega
              have r5 : (((x.w : Int) : Int) != 0) = true := by rw [bne_iff_ne]; omega
              have R := hid (show x.right = false by unfold Note.Q.right; first | (simp [*]; done) | (simp [*]; omega))
              go_enter Try.func42, Try.ntmps42
              go_wp2
              go_ret
              exact ⟨(congrArg (fun b => Ending.returned (.bool b)) R.out).symm, (Below.refl _ _).alloc (Nat.le_refl _) _⟩
          · skip
            have q4 : (((x.kk : Int) : Int) == 0) = false := by rw [beq_eq_false_iff_ne]; omega
            have r4 : (((x.kk : Int) : Int) != 0) = true := by rw [bne_iff_ne]; omega
            have R := hid (show x.right = false by unfold Note.Q.right; first | (simp [*]; done) | (simp [*]; omega))
            go_enter Try.func42, Try.ntmps42
            go_wp2
            go_ret
            exact ⟨(congrArg (fun b => Ending.returned (.bool b)) R.out).symm, (Below.refl _ _).alloc (Nat.le_refl _) _⟩
        · skip
          have q3 : (((x.t : Nat) : Int) == 0) = false := by rw [beq_eq_false_iff_ne]; omega
          have r3 : (((x.t : Nat) : Int) != 0) = true := by rw [bne_iff_ne]; omega
          have R := hid (show x.right = false by unfold Note.Q.right; first | (simp [*]; done) | (simp [*]; omega))
          go_enter Try.func42, Try.ntmps42
          go_wp2
          go_ret
          exact ⟨(congrArg (fun b => Ending.returned (.bool b)) R.out).symm, (Below.refl _ _).alloc (Nat.le_refl _) _⟩
      · skip
        have q2 : (((x.k : Nat) : Int) == 2) = false := by rw [beq_eq_false_iff_ne]; omega
        have r2 : (((x.k : Nat) : Int) != 2) = true := by rw [bne_iff_ne]; omega
        by_cases c3 : x.k = 3
        · skip
          have q3 : (((x.k : Nat) : Int) == 3) = true := by rw [beq_iff_eq]; omega
          have r3 : (((x.k : Nat) : Int) != 3) = false := by rw [bne_eq_false_iff_eq]; omega
          by_cases c4 : x.t = 0
          · skip
            have q4 : (((x.t : Nat) : Int) == 0) = true := by rw [beq_iff_eq]; omega
            have r4 : (((x.t : Nat) : Int) != 0) = false := by rw [bne_eq_false_iff_eq]; omega
            by_cases c5 : x.kk = 0
            · skip
              have q5 : (((x.kk : Int) : Int) == 0) = true := by rw [beq_iff_eq]; omega
              have r5 : (((x.kk : Int) : Int) != 0) = false := by rw [bne_eq_false_iff_eq]; omega
              by_cases c6 : x.w = 0
              · skip
                have q6 : (((x.w : Int) : Int) == 0) = true := by rw [beq_iff_eq]; omega
                have r6 : (((x.w : Int) : Int) != 0) = false := by rw [bne_eq_false_iff_eq]; omega
                have R := hid (show x.right = true by unfold Note.Q.right; first | (simp [*]; done) | (simp [*]; omega))
                go_enter Try.func42, Try.ntmps42
                go_wp2
                go_ret
                exact ⟨(congrArg (fun b => Ending.returned (.bool b)) R.out).symm, (Below.refl _ _).alloc (Nat.le_refl _) _⟩
              · skip
                have q6 : (((x.w : Int) : Int) == 0) = false := by rw [beq_eq_false_iff_ne]; omega
                have r6 : (((x.w : Int) : Int) != 0) = true := by rw [bne_iff_ne]; omega
                have R := hid (show x.right = false by unfold Note.Q.right; first | (simp [*]; done) | (simp [*]; omega))
                go_enter Try.func42, Try.ntmps42
                go_wp2
                go_ret
                exact ⟨(congrArg (fun b => Ending.returned (.bool b)) R.out).symm, (Below.refl _ _).alloc (Nat.le_refl _) _⟩
            · skip
              have q5 : (((x.kk : Int) : Int) == 0) = false := by rw [beq_eq_false_iff_ne]; omega
              have r5 : (((x.kk : Int) : Int) != 0) = true := by rw [bne_iff_ne]; omega
              have R := hid (show x.right = false by unfold Note.Q.right; first | (simp [*]; done) | (simp [*]; omega))
              go_enter Try.func42, Try.ntmps42
              go_wp2
              go_ret
              exact ⟨(congrArg (fun b => Ending.returned (.bool b)) R.out).symm, (Below.refl _ _).alloc (Nat.le_refl _) _⟩
          · skip
            have q4 : (((x.t : Nat) : Int) == 0) = false := by rw [beq_eq_false_iff_ne]; omega
            have r4 : (((x.t : Nat) : Int) != 0) = true := by rw [bne_iff_ne]; omega
            have R := hid (show x.right = false by unfold Note.Q.right; first | (simp [*]; done) | (simp [*]; omega))
            go_enter Try.func42, Try.ntmps42
            go_wp2
            go_ret
            exact ⟨(congrArg (fun b => Ending.returned (.bool b)) R.out).symm, (Below.refl _ _).alloc (Nat.le_refl _) _⟩
        · skip
          have q3 : (((x.k : Nat) : Int) == 3) = false := by rw [beq_eq_false_iff_ne]; omega
          have r3 : (((x.k : Nat) : Int) != 3) = true := by rw [bne_iff_ne]; omega
          have R := hid (show x.right = false by unfold Note.Q.right; first | (simp [*]; done) | (simp [*]; omega))
          go_enter Try.func42, Try.ntmps42
          go_wp2
          go_ret
          exact ⟨(congrArg (fun b => Ending.returned (.bool b)) R.out).symm, (Below.refl _ _).alloc (Nat.le_refl _) _⟩
  · skip
    have d0_0 : 8 ≤ (x.cl : Int) := by omega
    have R := hid (show x.right = false by unfold Note.Q.right; first | (simp [*]; done) | (simp [*]; omega))
    go_enter Try.func42, Try.ntmps42
    go_wp2
    go_ret
    exact ⟨(congrArg (fun b => Ending.returned (.bool b)) R.out).symm, (Below.refl _ _).alloc (Nat.le_refl _) _⟩


end Go.Proofs.Ytahiaifdfgkemaa
