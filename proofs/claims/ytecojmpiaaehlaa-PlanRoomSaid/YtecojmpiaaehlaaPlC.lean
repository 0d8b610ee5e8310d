/-
  cap's numbers, and the document's, as far as a plan asks.
-/
import Derived.Test.YtecojmpiaaehlaaPlM
import Derived.WalkSpells
import Derived.WalkLawsBesides
import Derived.Test.YtecojmpiaaehlaaCapM
namespace Go.Proofs.Ytecojmpiaaehlaa
open Go.RowKit
set_option linter.unusedVariables false

set_option maxHeartbeats 400000 in
theorem within_any (n : Int) (w : World) : Calls Try.prog 36 #[.int .i64 n] w fun e w' => e = .returned (.int .i64 (Cap.inn n)) ∧ w = w' := by
  rcases Int.lt_or_le n 0 with h | h
  · have H := hid (Cap.inn_lo n h)
    go_enter Try.func36, Try.ntmps36
    go_wp2
    go_ret
    rw [H.out]
    exact ⟨rfl, rfl⟩
  · rcases Int.lt_or_le 1099511627776 n with h2 | h2
    · have H := hid (Cap.inn_hi n h2)
      go_enter Try.func36, Try.ntmps36
      go_wp2
      go_ret
      rw [H.out]
      exact ⟨rfl, rfl⟩
    · have H := hid (Cap.inn_in n h h2)
      go_enter Try.func36, Try.ntmps36
      go_wp2
      go_ret
      rw [H.out]
      exact ⟨rfl, rfl⟩

set_option maxHeartbeats 400000 in
theorem refin_any (n : Int) (w : World) : Calls Try.prog 27 #[.int .i64 n] w fun e w' => e = .returned (.int .i64 (Cap.inn n)) ∧ w = w' := by
  rcases Int.lt_or_le n 0 with h | h
  · have H := hid (Cap.inn_lo n h)
    go_enter Try.func27, Try.ntmps27
    go_wp2
    go_ret
    rw [H.out]
    exact ⟨rfl, rfl⟩
  · rcases Int.lt_or_le 1099511627776 n with h2 | h2
    · have H := hid (Cap.inn_hi n h2)
      go_enter Try.func27, Try.ntmps27
      go_wp2
      go_ret
      rw [H.out]
      exact ⟨rfl, rfl⟩
    · have H := hid (Cap.inn_in n h h2)
      go_enter Try.func27, Try.ntmps27
      go_wp2
      go_ret
      rw [H.out]
      exact ⟨rfl, rfl⟩

/-! GEN: numbers of two -/

set_option maxHeartbeats 400000 in
theorem add_any (a b : Int) (w : World) : Calls Try.prog 35 #[.int .i64 a, .int .i64 b] w fun e w' => e = .returned (.int .i64 (Cap.add a b)) ∧ w = w' := by
  have ha := Cap.inn_bd a
  have hb := Cap.inn_bd b
  go_enter Try.func35, Try.ntmps35
  go_wp2_with fail
  refine (within_any a _).mono ?_
  rintro e w' ⟨rfl, rfl⟩
  go_wp2_with fail
  refine (within_any b _).mono ?_
  rintro e w' ⟨rfl, rfl⟩
  go_wp2_with fail
  refine (within_any _ _).mono ?_
  rintro e w' ⟨rfl, rfl⟩
  go_wp2
  go_ret
  exact ⟨rfl, rfl⟩

set_option maxHeartbeats 400000 in
theorem refadd_any (a b : Int) (w : World) : Calls Try.prog 31 #[.int .i64 a, .int .i64 b] w fun e w' => e = .returned (.int .i64 (Cap.add a b)) ∧ w = w' := by
  have ha := Cap.inn_bd a
  have hb := Cap.inn_bd b
  go_enter Try.func31, Try.ntmps31
  go_wp2_with fail
  refine (refin_any a _).mono ?_
  rintro e w' ⟨rfl, rfl⟩
  go_wp2_with fail
  refine (refin_any b _).mono ?_
  rintro e w' ⟨rfl, rfl⟩
  go_wp2_with fail
  refine (refin_any _ _).mono ?_
  rintro e w' ⟨rfl, rfl⟩
  go_wp2
  go_ret
  exact ⟨rfl, rfl⟩

set_option maxHeartbeats 1000000 in
theorem keep_any (n lo hi : Int) (w : World) : Calls Try.prog 32 #[.int .i64 n, .int .i64 lo, .int .i64 hi] w fun e w' => e = .returned (.int .i64 (Cap.keep n lo hi)) ∧ w = w' := by
  have hk : Cap.keep n lo hi = if (if Cap.inn n < Cap.inn lo then Cap.inn lo else Cap.inn n) > Cap.inn hi then Cap.inn hi else if Cap.inn n < Cap.inn lo then Cap.inn lo else Cap.inn n := rfl
  rcases Int.lt_or_le (Cap.inn n) (Cap.inn lo) with h | h
  · clear hk
    rcases Int.lt_or_le (Cap.inn hi) (Cap.inn lo) with g | g
    · have H := hid (show Cap.keep n lo hi = Cap.inn hi by unfold Cap.keep; repeat' split <;> omega)
      · go_enter Try.func32, Try.ntmps32
        go_wp2_with fail
        refine (within_any n _).mono ?_
        rintro e w' ⟨rfl, rfl⟩
        go_wp2_with fail
        refine (within_any lo _).mono ?_
        rintro e w' ⟨rfl, rfl⟩
        go_wp2_with fail
        refine (within_any hi _).mono ?_
        rintro e w' ⟨rfl, rfl⟩
        go_wp2
        all_goals
          go_ret
          rw [H.out]
          first | exact ⟨rfl, rfl⟩ | (refine ⟨ret_int ?_, rfl⟩; simp; omega)
    · have H := hid (show Cap.keep n lo hi = Cap.inn lo by unfold Cap.keep; repeat' split <;> omega)
      · go_enter Try.func32, Try.ntmps32
        go_wp2_with fail
        refine (within_any n _).mono ?_
        rintro e w' ⟨rfl, rfl⟩
        go_wp2_with fail
        refine (within_any lo _).mono ?_
        rintro e w' ⟨rfl, rfl⟩
        go_wp2_with fail
        refine (within_any hi _).mono ?_
        rintro e w' ⟨rfl, rfl⟩
        go_wp2
        all_goals
          go_ret
          rw [H.out]
          first | exact ⟨rfl, rfl⟩ | (refine ⟨ret_int ?_, rfl⟩; simp; omega)
  · clear hk
    rcases Int.lt_or_le (Cap.inn hi) (Cap.inn n) with g | g
    · have H := hid (show Cap.keep n lo hi = Cap.inn hi by unfold Cap.keep; repeat' split <;> omega)
      · go_enter Try.func32, Try.ntmps32
        go_wp2_with fail
        refine (within_any n _).mono ?_
        rintro e w' ⟨rfl, rfl⟩
        go_wp2_with fail
        refine (within_any lo _).mono ?_
        rintro e w' ⟨rfl, rfl⟩
        go_wp2_with fail
        refine (within_any hi _).mono ?_
        rintro e w' ⟨rfl, rfl⟩
        go_wp2
        all_goals
          go_ret
          rw [H.out]
          first | exact ⟨rfl, rfl⟩ | (refine ⟨ret_int ?_, rfl⟩; simp; omega)
    · have H := hid (show Cap.keep n lo hi = Cap.inn n by unfold Cap.keep; repeat' split <;> omega)
      · go_enter Try.func32, Try.ntmps32
        go_wp2_with fail
        refine (within_any n _).mono ?_
        rintro e w' ⟨rfl, rfl⟩
        go_wp2_with fail
        refine (within_any lo _).mono ?_
        rintro e w' ⟨rfl, rfl⟩
        go_wp2_with fail
        refine (within_any hi _).mono ?_
        rintro e w' ⟨rfl, rfl⟩
        go_wp2
        all_goals
          go_ret
          rw [H.out]
          first | exact ⟨rfl, rfl⟩ | (refine ⟨ret_int ?_, rfl⟩; simp; omega)


theorem inn_bnd (n : Int) : Cap.inn n = (bnd n : Nat) := by
  unfold Cap.inn bnd topN
  split
  · omega
  · split <;> omega
theorem add_addT (a b : Int) : Cap.add a b = (addT a b : Nat) := by
  have : Cap.add a b = Cap.inn (Cap.inn a + Cap.inn b) := rfl
  rw [this, inn_bnd, inn_bnd, inn_bnd]
  unfold addT
  unfold bnd topN
  omega
theorem in_any (n : Int) (w : World) : Calls Try.prog 27 #[.int .i64 n] w fun e w' => e = .returned (.int .i64 (bnd n : Nat)) ∧ w = w' := by
  rw [← inn_bnd]; exact refin_any n w
theorem addt_any (a b : Int) (w : World) : Calls Try.prog 35 #[.int .i64 a, .int .i64 b] w fun e w' => e = .returned (.int .i64 (addT a b : Nat)) ∧ w = w' := by
  rw [← add_addT]; exact add_any a b w
theorem raddt_any (a b : Int) (w : World) : Calls Try.prog 31 #[.int .i64 a, .int .i64 b] w fun e w' => e = .returned (.int .i64 (addT a b : Nat)) ∧ w = w' := by
  rw [← add_addT]; exact refadd_any a b w
theorem keep_bnd (n : Int) : Cap.keep n 0 1099511627776 = (bnd n : Nat) := by
  unfold Cap.keep
  simp only [inn_bnd]
  unfold bnd topN
  split <;> split <;> omega
theorem keepb_any (n : Int) (w : World) : Calls Try.prog 32 #[.int .i64 n, .int .i64 0, .int .i64 1099511627776] w fun e w' => e = .returned (.int .i64 (bnd n : Nat)) ∧ w = w' := by
  rw [← keep_bnd]; exact keep_any n 0 1099511627776 w

end Go.Proofs.Ytecojmpiaaehlaa
