/-
  Which requests, replies and packets are right: contracts.
-/
import Derived.Test.YtafpgglebjllbaaNoteD
import Derived.Test.YtafpgglebjllbaaKit
namespace Go.Proofs.Ytafpgglebjllbaa
open Go.RowKit

set_option maxHeartbeats 400000 in
theorem asked_yes (n : Int) (w : World) (h0 : 0 ≤ n) (h1 : n ≤ 2147483647) : Calls Try.prog 77 #[.int .i64 n] w fun e w' => e = .returned (.bool true) ∧ w = w' := by
  go_enter Try.func77, Try.ntmps77
  go_wp2
  go_ret
  exact ⟨rfl, rfl⟩

set_option maxHeartbeats 400000 in
theorem asked_no (n : Int) (w : World) (h : ¬ (0 ≤ n ∧ n ≤ 2147483647)) : Calls Try.prog 77 #[.int .i64 n] w fun e w' => e = .returned (.bool false) ∧ w = w' := by
  by_cases h0 : 0 ≤ n
  · have h1 : ¬ n ≤ 2147483647 := by omega
    have h2 : 2147483647 < n := by omega
    clear h
    go_enter Try.func77, Try.ntmps77
    go_wp2
    go_ret
    exact ⟨rfl, rfl⟩
  · have h2 : n < 0 := by omega
    clear h
    go_enter Try.func77, Try.ntmps77
    go_wp2
    go_ret
    exact ⟨rfl, rfl⟩

set_option maxHeartbeats 400000 in
theorem credit_yes (n : Int) (w : World) (h0 : 0 ≤ n) (h1 : n ≤ 10000) : Calls Try.prog 60 #[.int .i64 n] w fun e w' => e = .returned (.bool true) ∧ w = w' := by
  go_enter Try.func60, Try.ntmps60
  go_wp2
  go_ret
  exact ⟨rfl, rfl⟩

set_option maxHeartbeats 400000 in
theorem credit_no (n : Int) (w : World) (h : ¬ (0 ≤ n ∧ n ≤ 10000)) : Calls Try.prog 60 #[.int .i64 n] w fun e w' => e = .returned (.bool false) ∧ w = w' := by
  by_cases h0 : 0 ≤ n
  · have h1 : ¬ n ≤ 10000 := by omega
    have h2 : 10000 < n := by omega
    clear h
    go_enter Try.func60, Try.ntmps60
    go_wp2
    go_ret
    exact ⟨rfl, rfl⟩
  · have h2 : n < 0 := by omega
    clear h
    go_enter Try.func60, Try.ntmps60
    go_wp2
    go_ret
    exact ⟨rfl, rfl⟩

set_option maxHeartbeats 2000000 in
theorem rightrequest_any (x : Note.Q) (w : World) :
    Calls Try.prog 50 #[.agg #[.int .u8 (x.cl : Int), .int .u32 (x.s : Int), .int .u8 (x.k : Int), .int .u8 (x.t : Int), .int .i64 x.kk, .int .i64 x.w, .int .u32 (x.j : Int)]] w fun e w' => e = .returned (.bool x.right) ∧ Below w.heap.size w w' := by
  by_cases c0 : x.cl < 8
  · skip
    have d0_0 : (x.cl : Int) < 8 := by omega
    have d0_1 : ¬ 8 ≤ (x.cl : Int) := by omega
    by_cases c1 : x.k = 1
    · skip
      have q1 : (((x.k : Nat) : Int) == 1) = true := by rw [beq_iff_eq]; omega
      have r1 : (((x.k : Nat) : Int) != 1) = false := by rw [bne_eq_false_iff_eq]; omega
      by_cases c2 : (0 ≤ x.kk ∧ x.kk ≤ 2147483647)
      · skip
        obtain ⟨c2a, c2b⟩ := c2
        by_cases c3 : (0 ≤ x.w ∧ x.w ≤ 2147483647)
        · skip
          obtain ⟨c3a, c3b⟩ := c3
          by_cases c4 : x.j = 0
          · skip
            have q4 : (((x.j : Nat) : Int) == 0) = true := by rw [beq_iff_eq]; omega
            have r4 : (((x.j : Nat) : Int) != 0) = false := by rw [bne_eq_false_iff_eq]; omega
            have R := hid (show x.right = true by unfold Note.Q.right; first | (simp [*]; done) | (simp [*]; omega))
            go_enter Try.func50, Try.ntmps50
            go_wp2_with fail
            refine (asked_yes _ _ (by assumption) (by assumption)).mono ?_
            rintro e w' ⟨rfl, rfl⟩
            go_wp2_with fail
            refine (asked_yes _ _ (by assumption) (by assumption)).mono ?_
            rintro e w' ⟨rfl, rfl⟩
            go_wp2
            go_ret
            exact ⟨(congrArg (fun b => Ending.returned (.bool b)) R.out).symm, (Below.refl _ _).alloc (Nat.le_refl _) _⟩
          · skip
            have q4 : (((x.j : Nat) : Int) == 0) = false := by rw [beq_eq_false_iff_ne]; omega
            have r4 : (((x.j : Nat) : Int) != 0) = true := by rw [bne_iff_ne]; omega
            have R := hid (show x.right = false by unfold Note.Q.right; first | (simp [*]; done) | (simp [*]; omega))
            go_enter Try.func50, Try.ntmps50
            go_wp2_with fail
            refine (asked_yes _ _ (by assumption) (by assumption)).mono ?_
            rintro e w' ⟨rfl, rfl⟩
            go_wp2_with fail
            refine (asked_yes _ _ (by assumption) (by assumption)).mono ?_
            rintro e w' ⟨rfl, rfl⟩
            go_wp2
            go_ret
            exact ⟨(congrArg (fun b => Ending.returned (.bool b)) R.out).symm, (Below.refl _ _).alloc (Nat.le_refl _) _⟩
        · skip
          have R := hid (show x.right = false by unfold Note.Q.right; first | (simp [*]; done) | (simp [*]; omega))
          go_enter Try.func50, Try.ntmps50
          go_wp2_with fail
          refine (asked_yes _ _ (by assumption) (by assumption)).mono ?_
          rintro e w' ⟨rfl, rfl⟩
          go_wp2_with fail
          refine (asked_no _ _ (by assumption)).mono ?_
          rintro e w' ⟨rfl, rfl⟩
          go_wp2
          go_ret
          exact ⟨(congrArg (fun b => Ending.returned (.bool b)) R.out).symm, (Below.refl _ _).alloc (Nat.le_refl _) _⟩
      · skip
        have R := hid (show x.right = false by unfold Note.Q.right; first | (simp [*]; done) | (simp [*]; omega))
        go_enter Try.func50, Try.ntmps50
        go_wp2_with fail
        refine (asked_no _ _ (by assumption)).mono ?_
        rintro e w' ⟨rfl, rfl⟩
        go_wp2
        go_ret
        exact ⟨(congrArg (fun b => Ending.returned (.bool b)) R.out).symm, (Below.refl _ _).alloc (Nat.le_refl _) _⟩
    · skip
      have q1 : (((x.k : Nat) : Int) == 1) = false := by rw [beq_eq_false_iff_ne]; omega
      have r1 : (((x.k : Nat) : Int) != 1) = true := by rw [bne_iff_ne]; omega
      by_cases c2 : x.k = 2
      · skip
        have q2 : (((x.k : Nat) : Int) == 2) = true := by rw [beq_iff_eq]; omega
        have r2 : (((x.k : Nat) : Int) != 2) = false := by rw [bne_eq_false_iff_eq]; omega
        by_cases c3 : x.t = 0
        · skip
          have q3 : (((x.t : Nat) : Int) == 0) = true := by rw [beq_iff_eq]; omega
          have r3 : (((x.t : Nat) : Int) != 0) = false := by rw [bne_eq_false_iff_eq]; omega
          by_cases c4 : x.kk = 0
          · skip
            have q4 : (((x.kk : Int) : Int) == 0) = true := by rw [beq_iff_eq]; omega
            have r4 : (((x.kk : Int) : Int) != 0) = false := by rw [bne_eq_false_iff_eq]; omega
            by_cases c5 : x.w = 0
            · skip
              have q5 : (((x.w : Int) : Int) == 0) = true := by rw [beq_iff_eq]; omega
              have r5 : (((x.w : Int) : Int) != 0) = false := by rw [bne_eq_false_iff_eq]; omega
              have R := hid (show x.right = true by unfold Note.Q.right; first | (simp [*]; done) | (simp [*]; omega))
              go_enter Try.func50, Try.ntmps50
              go_wp2
              go_ret
              exact ⟨(congrArg (fun b => Ending.returned (.bool b)) R.out).symm, (Below.refl _ _).alloc (Nat.le_refl _) _⟩
            · skip
              have q5 : (((x.w : Int) : Int) == 0) = false := by rw [beq_eq_false_iff_ne]; omega
              have r5 : (((x.w : Int) : Int) != 0) = true := by rw [bne_iff_ne]; omega
              have R := hid (show x.right = false by unfold Note.Q.right; first | (simp [*]; done) | (simp [*]; omega))
              go_enter Try.func50, Try.ntmps50
              go_wp2
              go_ret
              exact ⟨(congrArg (fun b => Ending.returned (.bool b)) R.out).symm, (Below.refl _ _).alloc (Nat.le_refl _) _⟩
          · skip
            have q4 : (((x.kk : Int) : Int) == 0) = false := by rw [beq_eq_false_iff_ne]; omega
            have r4 : (((x.kk : Int) : Int) != 0) = true := by rw [bne_iff_ne]; omega
            have R := hid (show x.right = false by unfold Note.Q.right; first | (simp [*]; done) | (simp [*]; omega))
            go_enter Try.func50, Try.ntmps50
            go_wp2
            go_ret
            exact ⟨(congrArg (fun b => Ending.returned (.bool b)) R.out).symm, (Below.refl _ _).alloc (Nat.le_refl _) _⟩
        · skip
          have q3 : (((x.t : Nat) : Int) == 0) = false := by rw [beq_eq_false_iff_ne]; omega
          have r3 : (((x.t : Nat) : Int) != 0) = true := by rw [bne_iff_ne]; omega
          have R := hid (show x.right = false by unfold Note.Q.right; first | (simp [*]; done) | (simp [*]; omega))
          go_enter Try.func50, Try.ntmps50
          go_wp2
          go_ret
          exact ⟨(congrArg (fun b => Ending.returned (.bool b)) R.out).symm, (Below.refl _ _).alloc (Nat.le_refl _) _⟩
      · skip
        have q2 : (((x.k : Nat) : Int) == 2) = false := by rw [beq_eq_false_iff_ne]; omega
        have r2 : (((x.k : Nat) : Int) != 2) = true := by rw [bne_iff_ne]; omega
        by_cases c3 : x.k = 3
        · skip
          have q3 : (((x.k : Nat) : Int) == 3) = true := by rw [beq_iff_eq]; omega
          have r3 : (((x.k : Nat) : Int) != 3) = false := by rw [bne_eq_false_iff_eq]; omega
          by_cases c4 : x.t = 0
          · skip
            have q4 : (((x.t : Nat) : Int) == 0) = true := by rw [beq_iff_eq]; omega
            have r4 : (((x.t : Nat) : Int) != 0) = false := by rw [bne_eq_false_iff_eq]; omega
            by_cases c5 : x.kk = 0
            · skip
              have q5 : (((x.kk : Int) : Int) == 0) = true := by rw [beq_iff_eq]; omega
              have r5 : (((x.kk : Int) : Int) != 0) = false := by rw [bne_eq_false_iff_eq]; omega
              by_cases c6 : x.w = 0
              · skip
                have q6 : (((x.w : Int) : Int) == 0) = true := by rw [beq_iff_eq]; omega
                have r6 : (((x.w : Int) : Int) != 0) = false := by rw [bne_eq_false_iff_eq]; omega
                have R := hid (show x.right = true by unfold Note.Q.right; first | (simp [*]; done) | (simp [*]; omega))
                go_enter Try.func50, Try.ntmps50
                go_wp2
                go_ret
                exact ⟨(congrArg (fun b => Ending.returned (.bool b)) R.out).symm, (Below.refl _ _).alloc (Nat.le_refl _) _⟩
              · skip
                have q6 : (((x.w : Int) : Int) == 0) = false := by rw [beq_eq_false_iff_ne]; omega
                have r6 : (((x.w : Int) : Int) != 0) = true := by rw [bne_iff_ne]; omega
                have R := hid (show x.right = false by unfold Note.Q.right; first | (simp [*]; done) | (simp [*]; omega))
                go_enter Try.func50, Try.ntmps50
                go_wp2
                go_ret
                exact ⟨(congrArg (fun b => Ending.returned (.bool b)) R.out).symm, (Below.refl _ _).alloc (Nat.le_refl _) _⟩
            · skip
              have q5 : (((x.kk : Int) : Int) == 0) = false := by rw [beq_eq_false_iff_ne]; omega
              have r5 : (((x.kk : Int) : Int) != 0) = true := by rw [bne_iff_ne]; omega
              have R := hid (show x.right = false by unfold Note.Q.right; first | (simp [*]; done) | (simp [*]; omega))
              go_enter Try.func50, Try.ntmps50
              go_wp2
              go_ret
              exact ⟨(congrArg (fun b => Ending.returned (.bool b)) R.out).symm, (Below.refl _ _).alloc (Nat.le_refl _) _⟩
          · skip
            have q4 : (((x.t : Nat) : Int) == 0) = false := by rw [beq_eq_false_iff_ne]; omega
            have r4 : (((x.t : Nat) : Int) != 0) = true := by rw [bne_iff_ne]; omega
            have R := hid (show x.right = false by unfold Note.Q.right; first | (simp [*]; done) | (simp [*]; omega))
            go_enter Try.func50, Try.ntmps50
            go_wp2
            go_ret
            exact ⟨(congrArg (fun b => Ending.returned (.bool b)) R.out).symm, (Below.refl _ _).alloc (Nat.le_refl _) _⟩
        · skip
          have q3 : (((x.k : Nat) : Int) == 3) = false := by rw [beq_eq_false_iff_ne]; omega
          have r3 : (((x.k : Nat) : Int) != 3) = true := by rw [bne_iff_ne]; omega
          have R := hid (show x.right = false by unfold Note.Q.right; first | (simp [*]; done) | (simp [*]; omega))
          go_enter Try.func50, Try.ntmps50
          go_wp2
          go_ret
          exact ⟨(congrArg (fun b => Ending.returned (.bool b)) R.out).symm, (Below.refl _ _).alloc (Nat.le_refl _) _⟩
  · skip
    have d0_0 : 8 ≤ (x.cl : Int) := by omega
    have R := hid (show x.right = false by unfold Note.Q.right; first | (simp [*]; done) | (simp [*]; omega))
    go_enter Try.func50, Try.ntmps50
    go_wp2
    go_ret
    exact ⟨(congrArg (fun b => Ending.returned (.bool b)) R.out).symm, (Below.refl _ _).alloc (Nat.le_refl _) _⟩


set_option maxHeartbeats 2000000 in
theorem formrequest_any (x : Note.Q) (w : World) :
    Calls Try.prog 78 #[.agg #[.int .u8 (x.cl : Int), .int .u32 (x.s : Int), .int .u8 (x.k : Int), .int .u8 (x.t : Int), .int .i64 x.kk, .int .i64 x.w, .int .u32 (x.j : Int)]] w fun e w' => e = .returned (.bool x.right) ∧ Below w.heap.size w w' := by
  by_cases c0 : x.cl ≤ 7
  · skip
    have d0_0 : ¬ 7 < (x.cl : Int) := by omega
    by_cases c1 : 0 ≤ x.kk
    · skip
      have d1_0 : ¬ x.kk < 0 := by omega
      by_cases c2 : x.kk ≤ 2147483647
      · skip
        have d2_0 : ¬ 2147483647 < x.kk := by omega
        by_cases c3 : 0 ≤ x.w
        · skip
          have d3_0 : ¬ x.w < 0 := by omega
          by_cases c4 : x.w ≤ 2147483647
          · skip
            have d4_0 : ¬ 2147483647 < x.w := by omega
            by_cases c5 : x.k = 1
            · skip
              have q5 : (((x.k : Nat) : Int) == 1) = true := by rw [beq_iff_eq]; omega
              have r5 : (((x.k : Nat) : Int) != 1) = false := by rw [bne_eq_false_iff_eq]; omega
              by_cases c6 : x.j = 0
              · skip
                have q6 : (((x.j : Nat) : Int) == 0) = true := by rw [beq_iff_eq]; omega
                have r6 : (((x.j : Nat) : Int) != 0) = false := by rw [bne_eq_false_iff_eq]; omega
                have R := hid (show x.right = true by unfold Note.Q.right; first | (simp [*]; done) | (simp [*]; omega))
                go_enter Try.func78, Try.ntmps78
                go_wp2
                go_ret
                exact ⟨(congrArg (fun b => Ending.returned (.bool b)) R.out).symm, (Below.refl _ _).alloc (Nat.le_refl _) _⟩
              · skip
                have q6 : (((x.j : Nat) : Int) == 0) = false := by rw [beq_eq_false_iff_ne]; omega
                have r6 : (((x.j : Nat) : Int) != 0) = true := by rw [bne_iff_ne]; omega
                have R := hid (show x.right = false by unfold Note.Q.right; first | (simp [*]; done) | (simp [*]; omega))
                go_enter Try.func78, Try.ntmps78
                go_wp2
                go_ret
                exact ⟨(congrArg (fun b => Ending.returned (.bool b)) R.out).symm, (Below.refl _ _).alloc (Nat.le_refl _) _⟩
            · skip
              have q5 : (((x.k : Nat) : Int) == 1) = false := by rw [beq_eq_false_iff_ne]; omega
              have r5 : (((x.k : Nat) : Int) != 1) = true := by rw [bne_iff_ne]; omega
              by_cases c6 : x.k = 2
              · skip
                have q6 : (((x.k : Nat) : Int) == 2) = true := by rw [beq_iff_eq]; omega
                have r6 : (((x.k : Nat) : Int) != 2) = false := by rw [bne_eq_false_iff_eq]; omega
                by_cases c7 : x.t = 0
                · skip
                  have q7 : (((x.t : Nat) : Int) == 0) = true := by rw [beq_iff_eq]; omega
                  have r7 : (((x.t : Nat) : Int) != 0) = false := by rw [bne_eq_false_iff_eq]; omega
                  by_cases c8 : x.kk = 0
                  · skip
                    have q8 : (((x.kk : Int) : Int) == 0) = true := by rw [beq_iff_eq]; omega
                    have r8 : (((x.kk : Int) : Int) != 0) = false := by rw [bne_eq_false_iff_eq]; omega
                    by_cases c9 : x.w = 0
                    · skip
                      have q9 : (((x.w : Int) : Int) == 0) = true := by rw [beq_iff_eq]; omega
                      have r9 : (((x.w : Int) : Int) != 0) = false := by rw [bne_eq_false_iff_eq]; omega
                      have R := hid (show x.right = true by unfold Note.Q.right; first | (simp [*]; done) | (simp [*]; omega))
                      go_enter Try.func78, Try.ntmps78
                      go_wp2
                      go_ret
                      exact ⟨(congrArg (fun b => Ending.returned (.bool b)) R.out).symm, (Below.refl _ _).alloc (Nat.le_refl _) _⟩
                    · skip
                      have q9 : (((x.w : Int) : Int) == 0) = false := by rw [beq_eq_false_iff_ne]; omega
                      have r9 : (((x.w : Int) : Int) != 0) = true := by rw [bne_iff_ne]; omega
                      have R := hid (show x.right = false by unfold Note.Q.right; first | (simp [*]; done) | (simp [*]; omega))
                      go_enter Try.func78, Try.ntmps78
                      go_wp2
                      go_ret
                      exact ⟨(congrArg (fun b => Ending.returned (.bool b)) R.out).symm, (Below.refl _ _).alloc (Nat.le_refl _) _⟩
                  · skip
                    have q8 : (((x.kk : Int) : Int) == 0) = false := by rw [beq_eq_false_iff_ne]; omega
                    have r8 : (((x.kk : Int) : Int) != 0) = true := by rw [bne_iff_ne]; omega
                    have R := hid (show x.right = false by unfold Note.Q.right; first | (simp [*]; done) | (simp [*]; omega))
                    go_enter Try.func78, Try.ntmps78
                    go_wp2
                    go_ret
                    exact ⟨(congrArg (fun b => Ending.returned (.bool b)) R.out).symm, (Below.refl _ _).alloc (Nat.le_refl _) _⟩
                · skip
                  have q7 : (((x.t : Nat) : Int) == 0) = false := by rw [beq_eq_false_iff_ne]; omega
                  have r7 : (((x.t : Nat) : Int) != 0) = true := by rw [bne_iff_ne]; omega
                  have R := hid (show x.right = false by unfold Note.Q.right; first | (simp [*]; done) | (simp [*]; omega))
                  go_enter Try.func78, Try.ntmps78
                  go_wp2
                  go_ret
                  exact ⟨(congrArg (fun b => Ending.returned (.bool b)) R.out).symm, (Below.refl _ _).alloc (Nat.le_refl _) _⟩
              · skip
                have q6 : (((x.k : Nat) : Int) == 2) = false := by rw [beq_eq_false_iff_ne]; omega
                have r6 : (((x.k : Nat) : Int) != 2) = true := by rw [bne_iff_ne]; omega
                by_cases c7 : x.k = 3
                · skip
                  have q7 : (((x.k : Nat) : Int) == 3) = true := by rw [beq_iff_eq]; omega
                  have r7 : (((x.k : Nat) : Int) != 3) = false := by rw [bne_eq_false_iff_eq]; omega
                  by_cases c8 : x.t = 0
                  · skip
                    have q8 : (((x.t : Nat) : Int) == 0) = true := by rw [beq_iff_eq]; omega
                    have r8 : (((x.t : Nat) : Int) != 0) = false := by rw [bne_eq_false_iff_eq]; omega
                    by_cases c9 : x.kk = 0
                    · skip
                      have q9 : (((x.kk : Int) : Int) == 0) = true := by rw [beq_iff_eq]; omega
                      have r9 : (((x.kk : Int) : Int) != 0) = false := by rw [bne_eq_false_iff_eq]; omega
                      by_cases c10 : x.w = 0
                      · skip
                        have q10 : (((x.w : Int) : Int) == 0) = true := by rw [beq_iff_eq]; omega
                        have r10 : (((x.w : Int) : Int) != 0) = false := by rw [bne_eq_false_iff_eq]; omega
                        have R := hid (show x.right = true by unfold Note.Q.right; first | (simp [*]; done) | (simp [*]; omega))
                        go_enter Try.func78, Try.ntmps78
                        go_wp2
                        go_ret
                        exact ⟨(congrArg (fun b => Ending.returned (.bool b)) R.out).symm, (Below.refl _ _).alloc (Nat.le_refl _) _⟩
                      · skip
                        have q10 : (((x.w : Int) : Int) == 0) = false := by rw [beq_eq_false_iff_ne]; omega
                        have r10 : (((x.w : Int) : Int) != 0) = true := by rw [bne_iff_ne]; omega
                        have R := hid (show x.right = false by unfold Note.Q.right; first | (simp [*]; done) | (simp [*]; omega))
                        go_enter Try.func78, Try.ntmps78
                        go_wp2
                        go_ret
                        exact ⟨(congrArg (fun b => Ending.returned (.bool b)) R.out).symm, (Below.refl _ _).alloc (Nat.le_refl _) _⟩
                    · skip
                      have q9 : (((x.kk : Int) : Int) == 0) = false := by rw [beq_eq_false_iff_ne]; omega
                      have r9 : (((x.kk : Int) : Int) != 0) = true := by rw [bne_iff_ne]; omega
                      have R := hid (show x.right = false by unfold Note.Q.right; first | (simp [*]; done) | (simp [*]; omega))
                      go_enter Try.func78, Try.ntmps78
                      go_wp2
                      go_ret
                      exact ⟨(congrArg (fun b => Ending.returned (.bool b)) R.out).symm, (Below.refl _ _).alloc (Nat.le_refl _) _⟩
                  · skip
                    have q8 : (((x.t : Nat) : Int) == 0) = false := by rw [beq_eq_false_iff_ne]; omega
                    have r8 : (((x.t : Nat) : Int) != 0) = true := by rw [bne_iff_ne]; omega
                    have R := hid (show x.right = false by unfold Note.Q.right; first | (simp [*]; done) | (simp [*]; omega))
                    go_enter Try.func78, Try.ntmps78
                    go_wp2
                    go_ret
                    exact ⟨(congrArg (fun b => Ending.returned (.bool b)) R.out).symm, (Below.refl _ _).alloc (Nat.le_refl _) _⟩
                · skip
                  have q7 : (((x.k : Nat) : Int) == 3) = false := by rw [beq_eq_false_iff_ne]; omega
                  have r7 : (((x.k : Nat) : Int) != 3) = true := by rw [bne_iff_ne]; omega
                  have R := hid (show x.right = false by unfold Note.Q.right; first | (simp [*]; done) | (simp [*]; omega))
                  go_enter Try.func78, Try.ntmps78
                  go_wp2
                  go_ret
                  exact ⟨(congrArg (fun b => Ending.returned (.bool b)) R.out).symm, (Below.refl _ _).alloc (Nat.le_refl _) _⟩
          · skip
            have d4_0 : 2147483647 < x.w := by omega
            have R := hid (show x.right = false by unfold Note.Q.right; first | (simp [*]; done) | (simp [*]; omega))
            go_enter Try.func78, Try.ntmps78
            go_wp2
            go_ret
            exact ⟨(congrArg (fun b => Ending.returned (.bool b)) R.out).symm, (Below.refl _ _).alloc (Nat.le_refl _) _⟩
        · skip
          have d3_0 : x.w < 0 := by omega
          have R := hid (show x.right = false by unfold Note.Q.right; first | (simp [*]; done) | (simp [*]; omega))
          go_enter Try.func78, Try.ntmps78
          go_wp2
          go_ret
          exact ⟨(congrArg (fun b => Ending.returned (.bool b)) R.out).symm, (Below.refl _ _).alloc (Nat.le_refl _) _⟩
      · skip
        have d2_0 : 2147483647 < x.kk := by omega
        have R := hid (show x.right = false by unfold Note.Q.right; first | (simp [*]; done) | (simp [*]; omega))
        go_enter Try.func78, Try.ntmps78
        go_wp2
        go_ret
        exact ⟨(congrArg (fun b => Ending.returned (.bool b)) R.out).symm, (Below.refl _ _).alloc (Nat.le_refl _) _⟩
    · skip
      have d1_0 : x.kk < 0 := by omega
      have R := hid (show x.right = false by unfold Note.Q.right; first | (simp [*]; done) | (simp [*]; omega))
      go_enter Try.func78, Try.ntmps78
      go_wp2
      go_ret
      exact ⟨(congrArg (fun b => Ending.returned (.bool b)) R.out).symm, (Below.refl _ _).alloc (Nat.le_refl _) _⟩
  · skip
    have d0_0 : 7 < (x.cl : Int) := by omega
    have R := hid (show x.right = false by unfold Note.Q.right; first | (simp [*]; done) | (simp [*]; omega))
    go_enter Try.func78, Try.ntmps78
    go_wp2
    go_ret
    exact ⟨(congrArg (fun b => Ending.returned (.bool b)) R.out).symm, (Below.refl _ _).alloc (Nat.le_refl _) _⟩


set_option maxHeartbeats 2000000 in
theorem rightreply_any (x : Note.R) (w : World) :
    Calls Try.prog 54 #[.agg #[.int .u8 (x.cl : Int), .int .u32 (x.s : Int), .int .i64 x.e, .int .u32 (x.j : Int), .int .u8 (x.st : Int), .int .i64 x.c]] w fun e w' => e = .returned (.bool x.right) ∧ Below w.heap.size w w' := by
  by_cases c0 : x.cl < 8
  · skip
    have d0_0 : (x.cl : Int) < 8 := by omega
    by_cases c1 : 0 ≤ x.e
    · skip
      by_cases c2 : x.e ≤ 16
      · skip
        by_cases c3 : x.st ≤ 5
        · skip
          have d3_0 : (x.st : Int) ≤ 5 := by omega
          by_cases c4 : (0 ≤ x.c ∧ x.c ≤ 10000)
          · skip
            obtain ⟨c4a, c4b⟩ := c4
            have R := hid (show x.right = true by unfold Note.R.right; first | (simp [*]; done) | (simp [*]; omega))
            go_enter Try.func54, Try.ntmps54
            go_wp2_with fail
            refine (credit_yes _ _ (by assumption) (by assumption)).mono ?_
            rintro e w' ⟨rfl, rfl⟩
            go_wp2
            go_ret
            exact ⟨(congrArg (fun b => Ending.returned (.bool b)) R.out).symm, (Below.refl _ _).alloc (Nat.le_refl _) _⟩
          · skip
            have R := hid (show x.right = false by unfold Note.R.right; first | (simp [*]; done) | (simp [*]; omega))
            go_enter Try.func54, Try.ntmps54
            go_wp2_with fail
            refine (credit_no _ _ (by assumption)).mono ?_
            rintro e w' ⟨rfl, rfl⟩
            go_wp2
            go_ret
            exact ⟨(congrArg (fun b => Ending.returned (.bool b)) R.out).symm, (Below.refl _ _).alloc (Nat.le_refl _) _⟩
        · skip
          have d3_0 : ¬ (x.st : Int) ≤ 5 := by omega
          have R := hid (show x.right = false by unfold Note.R.right; first | (simp [*]; done) | (simp [*]; omega))
          go_enter Try.func54, Try.ntmps54
          go_wp2
          go_ret
          exact ⟨(congrArg (fun b => Ending.returned (.bool b)) R.out).symm, (Below.refl _ _).alloc (Nat.le_refl _) _⟩
      · skip
        have d2_0 : 16 < x.e := by omega
        have R := hid (show x.right = false by unfold Note.R.right; first | (simp [*]; done) | (simp [*]; omega))
        go_enter Try.func54, Try.ntmps54
        go_wp2
        go_ret
        exact ⟨(congrArg (fun b => Ending.returned (.bool b)) R.out).symm, (Below.refl _ _).alloc (Nat.le_refl _) _⟩
    · skip
      have d1_0 : x.e < 0 := by omega
      have R := hid (show x.right = false by unfold Note.R.right; first | (simp [*]; done) | (simp [*]; omega))
      go_enter Try.func54, Try.ntmps54
      go_wp2
      go_ret
      exact ⟨(congrArg (fun b => Ending.returned (.bool b)) R.out).symm, (Below.refl _ _).alloc (Nat.le_refl _) _⟩
  · skip
    have d0_0 : ¬ (x.cl : Int) < 8 := by omega
    have R := hid (show x.right = false by unfold Note.R.right; first | (simp [*]; done) | (simp [*]; omega))
    go_enter Try.func54, Try.ntmps54
    go_wp2
    go_ret
    exact ⟨(congrArg (fun b => Ending.returned (.bool b)) R.out).symm, (Below.refl _ _).alloc (Nat.le_refl _) _⟩


set_option maxHeartbeats 2000000 in
theorem rightpacket_any (x : Note.P) (ad : Option Addr) (cp : Nat) (w : World) :
    Calls Try.prog 43 #[.agg #[.int .u8 (x.n : Int), .int .u32 (x.e : Int), .int .u32 (x.l : Int), .int .u32 (x.s : Int), .int .u32 (x.a : Int), .bool x.p, .slice ad x.b.length cp]] w fun e w' => e = .returned (.bool x.right) ∧ Below w.heap.size w w' := by
  obtain ⟨L, hL⟩ : ∃ L, L = x.b.length := ⟨_, rfl⟩
  rw [← hL]
  have HL := hid hL
  clear hL
  by_cases c0 : x.n < 16
  · skip
    have d0_0 : (x.n : Int) < 16 := by omega
    by_cases c1 : L ≤ 1984
    · skip
      have d1_0 : (L : Int) ≤ 1984 := by omega
      by_cases c2 : x.p = false
      · skip
        have R := hid (show x.right = true by unfold Note.P.right; rw [← HL.out]; first | (simp [*]; done) | (simp [*]; omega))
        go_enter Try.func43, Try.ntmps43
        go_wp2
        go_ret
        exact ⟨(congrArg (fun b => Ending.returned (.bool b)) R.out).symm, (Below.refl _ _).alloc (Nat.le_refl _) _⟩
      · skip
        by_cases c3 : x.s = 0
        · skip
          have q3 : (((x.s : Nat) : Int) == 0) = true := by rw [beq_iff_eq]; omega
          have r3 : (((x.s : Nat) : Int) != 0) = false := by rw [bne_eq_false_iff_eq]; omega
          have R := hid (show x.right = true by unfold Note.P.right; rw [← HL.out]; first | (simp [*]; done) | (simp [*]; omega))
          go_enter Try.func43, Try.ntmps43
          go_wp2
          go_ret
          exact ⟨(congrArg (fun b => Ending.returned (.bool b)) R.out).symm, (Below.refl _ _).alloc (Nat.le_refl _) _⟩
        · skip
          have q3 : (((x.s : Nat) : Int) == 0) = false := by rw [beq_eq_false_iff_ne]; omega
          have r3 : (((x.s : Nat) : Int) != 0) = true := by rw [bne_iff_ne]; omega
          have R := hid (show x.right = false by unfold Note.P.right; rw [← HL.out]; first | (simp [*]; done) | (simp [*]; omega))
          go_enter Try.func43, Try.ntmps43
          go_wp2
          go_ret
          exact ⟨(congrArg (fun b => Ending.returned (.bool b)) R.out).symm, (Below.refl _ _).alloc (Nat.le_refl _) _⟩
    · skip
      have d1_0 : ¬ (L : Int) ≤ 1984 := by omega
      have R := hid (show x.right = false by unfold Note.P.right; rw [← HL.out]; first | (simp [*]; done) | (simp [*]; omega))
      go_enter Try.func43, Try.ntmps43
      go_wp2
      go_ret
      exact ⟨(congrArg (fun b => Ending.returned (.bool b)) R.out).symm, (Below.refl _ _).alloc (Nat.le_refl _) _⟩
  · skip
    have d0_0 : ¬ (x.n : Int) < 16 := by omega
    have R := hid (show x.right = false by unfold Note.P.right; rw [← HL.out]; first | (simp [*]; done) | (simp [*]; omega))
    go_enter Try.func43, Try.ntmps43
    go_wp2
    go_ret
    exact ⟨(congrArg (fun b => Ending.returned (.bool b)) R.out).symm, (Below.refl _ _).alloc (Nat.le_refl _) _⟩


end Go.Proofs.Ytafpgglebjllbaa
