/-
  cap's numbers, the code's and the document's: their contracts.
-/
import Derived.Test.YtccgpcllebmonaaRows
import Derived.WalkSpells
import Derived.WalkLawsBesides
import Derived.Test.YtccgpcllebmonaaCapM
namespace Go.Proofs.Ytccgpcllebmonaa
open Go.RowKit

theorem hid {p : Prop} (h : p) : Hid p := h

theorem ret_int {k : IntKind} {a b : Int} (h : a = b) : Ending.returned (.int k a) = .returned (.int k b) := by rw [h]

set_option maxHeartbeats 400000 in
theorem within_any (n : Int) (w : World) : Calls Try.prog 26 #[.int .i64 n] w fun e w' => e = .returned (.int .i64 (Cap.inn n)) ∧ w = w' := by
  rcases Int.lt_or_le n 0 with h | h
  · have H := hid (Cap.inn_lo n h)
    go_enter Try.func26, Try.ntmps26
    go_wp2
    go_ret
    rw [H.out]
    exact ⟨rfl, rfl⟩
  · rcases Int.lt_or_le 1099511627776 n with h2 | h2
    · have H := hid (Cap.inn_hi n h2)
      go_enter Try.func26, Try.ntmps26
      go_wp2
      go_ret
      rw [H.out]
      exact ⟨rfl, rfl⟩
    · have H := hid (Cap.inn_in n h h2)
      go_enter Try.func26, Try.ntmps26
      go_wp2
      go_ret
      rw [H.out]
      exact ⟨rfl, rfl⟩

set_option maxHeartbeats 400000 in
theorem refin_any (n : Int) (w : World) : Calls Try.prog 27 #[.int .i64 n] w fun e w' => e = .returned (.int .i64 (Cap.inn n)) ∧ w = w' := by
  rcases Int.lt_or_le n 0 with h | h
  · have H := hid (Cap.inn_lo n h)
    go_enter Try.func27, Try.ntmps27
    go_wp2
    go_ret
    rw [H.out]
    exact ⟨rfl, rfl⟩
  · rcases Int.lt_or_le 1099511627776 n with h2 | h2
    · have H := hid (Cap.inn_hi n h2)
      go_enter Try.func27, Try.ntmps27
      go_wp2
      go_ret
      rw [H.out]
      exact ⟨rfl, rfl⟩
    · have H := hid (Cap.inn_in n h h2)
      go_enter Try.func27, Try.ntmps27
      go_wp2
      go_ret
      rw [H.out]
      exact ⟨rfl, rfl⟩

/-! GEN: numbers of two -/

set_option maxHeartbeats 400000 in
theorem add_any (a b : Int) (w : World) : Calls Try.prog 11 #[.int .i64 a, .int .i64 b] w fun e w' => e = .returned (.int .i64 (Cap.add a b)) ∧ w = w' := by
  have ha := Cap.inn_bd a
  have hb := Cap.inn_bd b
  go_enter Try.func11, Try.ntmps11
  go_wp2_with fail
  refine (within_any a _).mono ?_
  rintro e w' ⟨rfl, rfl⟩
  go_wp2_with fail
  refine (within_any b _).mono ?_
  rintro e w' ⟨rfl, rfl⟩
  go_wp2_with fail
  refine (within_any _ _).mono ?_
  rintro e w' ⟨rfl, rfl⟩
  go_wp2
  go_ret
  exact ⟨rfl, rfl⟩

set_option maxHeartbeats 400000 in
theorem sub_any (a b : Int) (w : World) : Calls Try.prog 13 #[.int .i64 a, .int .i64 b] w fun e w' => e = .returned (.int .i64 (Cap.sub a b)) ∧ w = w' := by
  have ha := Cap.inn_bd a
  have hb := Cap.inn_bd b
  go_enter Try.func13, Try.ntmps13
  go_wp2_with fail
  refine (within_any a _).mono ?_
  rintro e w' ⟨rfl, rfl⟩
  go_wp2_with fail
  refine (within_any b _).mono ?_
  rintro e w' ⟨rfl, rfl⟩
  go_wp2_with fail
  refine (within_any _ _).mono ?_
  rintro e w' ⟨rfl, rfl⟩
  go_wp2
  go_ret
  exact ⟨rfl, rfl⟩

set_option maxHeartbeats 400000 in
theorem refadd_any (a b : Int) (w : World) : Calls Try.prog 12 #[.int .i64 a, .int .i64 b] w fun e w' => e = .returned (.int .i64 (Cap.add a b)) ∧ w = w' := by
  have ha := Cap.inn_bd a
  have hb := Cap.inn_bd b
  go_enter Try.func12, Try.ntmps12
  go_wp2_with fail
  refine (refin_any a _).mono ?_
  rintro e w' ⟨rfl, rfl⟩
  go_wp2_with fail
  refine (refin_any b _).mono ?_
  rintro e w' ⟨rfl, rfl⟩
  go_wp2_with fail
  refine (refin_any _ _).mono ?_
  rintro e w' ⟨rfl, rfl⟩
  go_wp2
  go_ret
  exact ⟨rfl, rfl⟩

set_option maxHeartbeats 400000 in
theorem refsub_any (a b : Int) (w : World) : Calls Try.prog 14 #[.int .i64 a, .int .i64 b] w fun e w' => e = .returned (.int .i64 (Cap.sub a b)) ∧ w = w' := by
  have ha := Cap.inn_bd a
  have hb := Cap.inn_bd b
  go_enter Try.func14, Try.ntmps14
  go_wp2_with fail
  refine (refin_any a _).mono ?_
  rintro e w' ⟨rfl, rfl⟩
  go_wp2_with fail
  refine (refin_any b _).mono ?_
  rintro e w' ⟨rfl, rfl⟩
  go_wp2_with fail
  refine (refin_any _ _).mono ?_
  rintro e w' ⟨rfl, rfl⟩
  go_wp2
  go_ret
  exact ⟨rfl, rfl⟩

set_option maxHeartbeats 1000000 in
theorem mul_any (a b : Int) (w : World) : Calls Try.prog 15 #[.int .i64 a, .int .i64 b] w fun e w' => e = .returned (.int .i64 (Cap.mul a b)) ∧ w = w' := by
  have ha := Cap.inn_bd a
  have hb := Cap.inn_bd b
  obtain ⟨hA1, hA2⟩ := ha
  obtain ⟨hB1, hB2⟩ := hb
  rcases Int.lt_or_le 0 (Cap.inn b) with h | h
  · rcases Int.lt_or_le 0 (Cap.inn a) with g | g
    · by_cases h2 : 1099511627776 / Cap.inn b < Cap.inn a
      · have H := hid (Cap.mul_top a b h h2)
        have hz1 : (Cap.inn a == 0) = false := by rw [beq_eq_false_iff_ne]; omega
        have hz2 : (Cap.inn b == 0) = false := by rw [beq_eq_false_iff_ne]; omega
        go_enter Try.func15, Try.ntmps15
        go_wp2_with fail
        refine (within_any a _).mono ?_
        rintro e w' ⟨rfl, rfl⟩
        go_wp2_with fail
        refine (within_any b _).mono ?_
        rintro e w' ⟨rfl, rfl⟩
        go_wp2
        go_ret
        rw [H.out]
        exact ⟨rfl, rfl⟩
      · obtain ⟨h3, h4, h5⟩ := Cap.mul_val a b h h2
        have H := hid h3
        have hz1 : (Cap.inn a == 0) = false := by rw [beq_eq_false_iff_ne]; omega
        have hz2 : (Cap.inn b == 0) = false := by rw [beq_eq_false_iff_ne]; omega
        clear h3
        go_enter Try.func15, Try.ntmps15
        go_wp2_with fail
        refine (within_any a _).mono ?_
        rintro e w' ⟨rfl, rfl⟩
        go_wp2_with fail
        refine (within_any b _).mono ?_
        rintro e w' ⟨rfl, rfl⟩
        go_wp2
        go_ret
        rw [H.out]
        exact ⟨rfl, rfl⟩
    · have g0 : Cap.inn a = 0 := by omega
      have H := hid (Cap.mul_zero_l a b g0)
      have G0 := hid g0
      have hq1 := Int.ediv_nonneg (a := 1099511627776) (b := Cap.inn b) (by omega) hB1
      clear g0 g hA1 hA2
      go_enter Try.func15, Try.ntmps15
      go_wp2_with fail
      refine (within_any a _).mono ?_
      rintro e w' ⟨rfl, rfl⟩
      go_wp2_with fail
      refine (within_any b _).mono ?_
      rintro e w' ⟨rfl, rfl⟩
      rw [G0.out]
      go_wp2
      go_ret
      rw [H.out]
      first | exact ⟨rfl, rfl⟩ | (refine ⟨ret_int ?_, rfl⟩; simp)
  · have g0 : Cap.inn b = 0 := by omega
    have H := hid (Cap.mul_zero_r a b g0)
    have G0 := hid g0
    clear g0 h hB1 hB2
    go_enter Try.func15, Try.ntmps15
    go_wp2_with fail
    refine (within_any a _).mono ?_
    rintro e w' ⟨rfl, rfl⟩
    go_wp2_with fail
    refine (within_any b _).mono ?_
    rintro e w' ⟨rfl, rfl⟩
    rw [G0.out]
    go_wp2
    all_goals
      go_ret
      rw [H.out]
      first | exact ⟨rfl, rfl⟩ | (refine ⟨ret_int ?_, rfl⟩; simp)

set_option maxHeartbeats 1000000 in
theorem refmul_any (a b : Int) (w : World) : Calls Try.prog 16 #[.int .i64 a, .int .i64 b] w fun e w' => e = .returned (.int .i64 (Cap.mul a b)) ∧ w = w' := by
  have ha := Cap.inn_bd a
  have hb := Cap.inn_bd b
  obtain ⟨hA1, hA2⟩ := ha
  obtain ⟨hB1, hB2⟩ := hb
  rcases Int.lt_or_le 0 (Cap.inn b) with h | h
  · rcases Int.lt_or_le 0 (Cap.inn a) with g | g
    · by_cases h2 : 1099511627776 / Cap.inn b < Cap.inn a
      · have H := hid (Cap.mul_top a b h h2)
        have hz1 : (Cap.inn a == 0) = false := by rw [beq_eq_false_iff_ne]; omega
        have hz2 : (Cap.inn b == 0) = false := by rw [beq_eq_false_iff_ne]; omega
        go_enter Try.func16, Try.ntmps16
        go_wp2_with fail
        refine (refin_any a _).mono ?_
        rintro e w' ⟨rfl, rfl⟩
        go_wp2_with fail
        refine (refin_any b _).mono ?_
        rintro e w' ⟨rfl, rfl⟩
        go_wp2
        go_ret
        rw [H.out]
        exact ⟨rfl, rfl⟩
      · obtain ⟨h3, h4, h5⟩ := Cap.mul_val a b h h2
        have H := hid h3
        have hz1 : (Cap.inn a == 0) = false := by rw [beq_eq_false_iff_ne]; omega
        have hz2 : (Cap.inn b == 0) = false := by rw [beq_eq_false_iff_ne]; omega
        clear h3
        go_enter Try.func16, Try.ntmps16
        go_wp2_with fail
        refine (refin_any a _).mono ?_
        rintro e w' ⟨rfl, rfl⟩
        go_wp2_with fail
        refine (refin_any b _).mono ?_
        rintro e w' ⟨rfl, rfl⟩
        go_wp2
        go_ret
        rw [H.out]
        exact ⟨rfl, rfl⟩
    · have g0 : Cap.inn a = 0 := by omega
      have H := hid (Cap.mul_zero_l a b g0)
      have G0 := hid g0
      have hq1 := Int.ediv_nonneg (a := 1099511627776) (b := Cap.inn b) (by omega) hB1
      clear g0 g hA1 hA2
      go_enter Try.func16, Try.ntmps16
      go_wp2_with fail
      refine (refin_any a _).mono ?_
      rintro e w' ⟨rfl, rfl⟩
      go_wp2_with fail
      refine (refin_any b _).mono ?_
      rintro e w' ⟨rfl, rfl⟩
      rw [G0.out]
      go_wp2
      go_ret
      rw [H.out]
      first | exact ⟨rfl, rfl⟩ | (refine ⟨ret_int ?_, rfl⟩; simp)
  · have g0 : Cap.inn b = 0 := by omega
    have H := hid (Cap.mul_zero_r a b g0)
    have G0 := hid g0
    clear g0 h hB1 hB2
    go_enter Try.func16, Try.ntmps16
    go_wp2_with fail
    refine (refin_any a _).mono ?_
    rintro e w' ⟨rfl, rfl⟩
    go_wp2_with fail
    refine (refin_any b _).mono ?_
    rintro e w' ⟨rfl, rfl⟩
    rw [G0.out]
    go_wp2
    all_goals
      go_ret
      rw [H.out]
      first | exact ⟨rfl, rfl⟩ | (refine ⟨ret_int ?_, rfl⟩; simp)

set_option maxHeartbeats 1000000 in
theorem up_any (a b : Int) (w : World) : Calls Try.prog 17 #[.int .i64 a, .int .i64 b] w fun e w' => e = .returned (.int .i64 (Cap.up a b)) ∧ w = w' := by
  obtain ⟨hA1, hA2⟩ := Cap.inn_bd a
  obtain ⟨hB1, hB2⟩ := Cap.inn_bd b
  rcases Int.lt_or_le 0 (Cap.inn b) with h | h
  · have H := hid (Cap.up_pos a b h)
    have hz2 : (Cap.inn b == 0) = false := by rw [beq_eq_false_iff_ne]; omega
    have hp : 0 ≤ Cap.inn a + Cap.inn b - 1 := by omega
    go_enter Try.func17, Try.ntmps17
    go_wp2_with fail
    refine (within_any a _).mono ?_
    rintro e w' ⟨rfl, rfl⟩
    go_wp2_with fail
    refine (within_any b _).mono ?_
    rintro e w' ⟨rfl, rfl⟩
    go_wp2
    go_ret
    rw [H.out]
    exact ⟨rfl, rfl⟩
  · have g0 : Cap.inn b = 0 := by omega
    have H := hid (Cap.up_zero a b g0)
    have G0 := hid g0
    clear g0 h hB1 hB2
    go_enter Try.func17, Try.ntmps17
    go_wp2_with fail
    refine (within_any a _).mono ?_
    rintro e w' ⟨rfl, rfl⟩
    go_wp2_with fail
    refine (within_any b _).mono ?_
    rintro e w' ⟨rfl, rfl⟩
    rw [G0.out]
    go_wp2
    go_ret
    rw [H.out]
    exact ⟨rfl, rfl⟩

set_option maxHeartbeats 1000000 in
theorem refup_any (a b : Int) (w : World) : Calls Try.prog 18 #[.int .i64 a, .int .i64 b] w fun e w' => e = .returned (.int .i64 (Cap.up a b)) ∧ w = w' := by
  obtain ⟨hA1, hA2⟩ := Cap.inn_bd a
  obtain ⟨hB1, hB2⟩ := Cap.inn_bd b
  rcases Int.lt_or_le 0 (Cap.inn b) with h | h
  · obtain ⟨hu1, hu2⟩ := Cap.up_down a b h
    have hz2 : (Cap.inn b == 0) = false := by rw [beq_eq_false_iff_ne]; omega
    have h1 := Int.ediv_mul_le (Cap.inn a) (show Cap.inn b ≠ 0 by omega)
    have hq0 : 0 ≤ Cap.inn a / Cap.inn b := Int.ediv_nonneg hA1 hB1
    have hq1 : Cap.inn a / Cap.inn b ≤ 1099511627776 := by
      have := Int.ediv_le_self (Cap.inn b) hA1
      omega
    have hm0 : 0 ≤ Cap.inn a / Cap.inn b * Cap.inn b := Int.mul_nonneg hq0 hB1
    by_cases hlt : Cap.inn a / Cap.inn b * Cap.inn b < Cap.inn a
    · have H := hid (hu1 hlt)
      clear hu1 hu2
      go_enter Try.func18, Try.ntmps18
      go_wp2_with fail
      refine (refin_any a _).mono ?_
      rintro e w' ⟨rfl, rfl⟩
      go_wp2_with fail
      refine (refin_any b _).mono ?_
      rintro e w' ⟨rfl, rfl⟩
      go_wp2
      go_ret
      rw [H.out]
      exact ⟨rfl, rfl⟩
    · have H := hid (hu2 hlt)
      clear hu1 hu2
      go_enter Try.func18, Try.ntmps18
      go_wp2_with fail
      refine (refin_any a _).mono ?_
      rintro e w' ⟨rfl, rfl⟩
      go_wp2_with fail
      refine (refin_any b _).mono ?_
      rintro e w' ⟨rfl, rfl⟩
      go_wp2
      go_ret
      rw [H.out]
      exact ⟨rfl, rfl⟩
  · have g0 : Cap.inn b = 0 := by omega
    have H := hid (Cap.up_zero a b g0)
    have G0 := hid g0
    clear g0 h hB1 hB2
    go_enter Try.func18, Try.ntmps18
    go_wp2_with fail
    refine (refin_any a _).mono ?_
    rintro e w' ⟨rfl, rfl⟩
    go_wp2_with fail
    refine (refin_any b _).mono ?_
    rintro e w' ⟨rfl, rfl⟩
    rw [G0.out]
    go_wp2
    go_ret
    rw [H.out]
    exact ⟨rfl, rfl⟩

set_option maxHeartbeats 1000000 in
theorem keep_any (n lo hi : Int) (w : World) : Calls Try.prog 21 #[.int .i64 n, .int .i64 lo, .int .i64 hi] w fun e w' => e = .returned (.int .i64 (Cap.keep n lo hi)) ∧ w = w' := by
  have hk : Cap.keep n lo hi = if (if Cap.inn n < Cap.inn lo then Cap.inn lo else Cap.inn n) > Cap.inn hi then Cap.inn hi else if Cap.inn n < Cap.inn lo then Cap.inn lo else Cap.inn n := rfl
  rcases Int.lt_or_le (Cap.inn n) (Cap.inn lo) with h | h
  · clear hk
    rcases Int.lt_or_le (Cap.inn hi) (Cap.inn lo) with g | g
    · have H := hid (show Cap.keep n lo hi = Cap.inn hi by unfold Cap.keep; repeat' split <;> omega)
      · go_enter Try.func21, Try.ntmps21
        go_wp2_with fail
        refine (within_any n _).mono ?_
        rintro e w' ⟨rfl, rfl⟩
        go_wp2_with fail
        refine (within_any lo _).mono ?_
        rintro e w' ⟨rfl, rfl⟩
        go_wp2_with fail
        refine (within_any hi _).mono ?_
        rintro e w' ⟨rfl, rfl⟩
        go_wp2
        all_goals
          go_ret
          rw [H.out]
          first | exact ⟨rfl, rfl⟩ | (refine ⟨ret_int ?_, rfl⟩; simp; omega)
    · have H := hid (show Cap.keep n lo hi = Cap.inn lo by unfold Cap.keep; repeat' split <;> omega)
      · go_enter Try.func21, Try.ntmps21
        go_wp2_with fail
        refine (within_any n _).mono ?_
        rintro e w' ⟨rfl, rfl⟩
        go_wp2_with fail
        refine (within_any lo _).mono ?_
        rintro e w' ⟨rfl, rfl⟩
        go_wp2_with fail
        refine (within_any hi _).mono ?_
        rintro e w' ⟨rfl, rfl⟩
        go_wp2
        all_goals
          go_ret
          rw [H.out]
          first | exact ⟨rfl, rfl⟩ | (refine ⟨ret_int ?_, rfl⟩; simp; omega)
  · clear hk
    rcases Int.lt_or_le (Cap.inn hi) (Cap.inn n) with g | g
    · have H := hid (show Cap.keep n lo hi = Cap.inn hi by unfold Cap.keep; repeat' split <;> omega)
      · go_enter Try.func21, Try.ntmps21
        go_wp2_with fail
        refine (within_any n _).mono ?_
        rintro e w' ⟨rfl, rfl⟩
        go_wp2_with fail
        refine (within_any lo _).mono ?_
        rintro e w' ⟨rfl, rfl⟩
        go_wp2_with fail
        refine (within_any hi _).mono ?_
        rintro e w' ⟨rfl, rfl⟩
        go_wp2
        all_goals
          go_ret
          rw [H.out]
          first | exact ⟨rfl, rfl⟩ | (refine ⟨ret_int ?_, rfl⟩; simp; omega)
    · have H := hid (show Cap.keep n lo hi = Cap.inn n by unfold Cap.keep; repeat' split <;> omega)
      · go_enter Try.func21, Try.ntmps21
        go_wp2_with fail
        refine (within_any n _).mono ?_
        rintro e w' ⟨rfl, rfl⟩
        go_wp2_with fail
        refine (within_any lo _).mono ?_
        rintro e w' ⟨rfl, rfl⟩
        go_wp2_with fail
        refine (within_any hi _).mono ?_
        rintro e w' ⟨rfl, rfl⟩
        go_wp2
        all_goals
          go_ret
          rw [H.out]
          first | exact ⟨rfl, rfl⟩ | (refine ⟨ret_int ?_, rfl⟩; simp; omega)

set_option maxHeartbeats 1000000 in
theorem refkeep_any (n lo hi : Int) (w : World) : Calls Try.prog 22 #[.int .i64 n, .int .i64 lo, .int .i64 hi] w fun e w' => e = .returned (.int .i64 (Cap.keep n lo hi)) ∧ w = w' := by
  have hk : Cap.keep n lo hi = if (if Cap.inn n < Cap.inn lo then Cap.inn lo else Cap.inn n) > Cap.inn hi then Cap.inn hi else if Cap.inn n < Cap.inn lo then Cap.inn lo else Cap.inn n := rfl
  rcases Int.lt_or_le (Cap.inn n) (Cap.inn lo) with h | h
  · clear hk
    rcases Int.lt_or_le (Cap.inn hi) (Cap.inn lo) with g | g
    · have H := hid (show Cap.keep n lo hi = Cap.inn hi by unfold Cap.keep; repeat' split <;> omega)
      · go_enter Try.func22, Try.ntmps22
        go_wp2_with fail
        refine (refin_any n _).mono ?_
        rintro e w' ⟨rfl, rfl⟩
        go_wp2_with fail
        refine (refin_any lo _).mono ?_
        rintro e w' ⟨rfl, rfl⟩
        go_wp2_with fail
        refine (refin_any hi _).mono ?_
        rintro e w' ⟨rfl, rfl⟩
        go_wp2
        all_goals
          go_ret
          rw [H.out]
          first | exact ⟨rfl, rfl⟩ | (refine ⟨ret_int ?_, rfl⟩; simp; omega)
    · have H := hid (show Cap.keep n lo hi = Cap.inn lo by unfold Cap.keep; repeat' split <;> omega)
      · go_enter Try.func22, Try.ntmps22
        go_wp2_with fail
        refine (refin_any n _).mono ?_
        rintro e w' ⟨rfl, rfl⟩
        go_wp2_with fail
        refine (refin_any lo _).mono ?_
        rintro e w' ⟨rfl, rfl⟩
        go_wp2_with fail
        refine (refin_any hi _).mono ?_
        rintro e w' ⟨rfl, rfl⟩
        go_wp2
        all_goals
          go_ret
          rw [H.out]
          first | exact ⟨rfl, rfl⟩ | (refine ⟨ret_int ?_, rfl⟩; simp; omega)
  · clear hk
    rcases Int.lt_or_le (Cap.inn hi) (Cap.inn n) with g | g
    · have H := hid (show Cap.keep n lo hi = Cap.inn hi by unfold Cap.keep; repeat' split <;> omega)
      · go_enter Try.func22, Try.ntmps22
        go_wp2_with fail
        refine (refin_any n _).mono ?_
        rintro e w' ⟨rfl, rfl⟩
        go_wp2_with fail
        refine (refin_any lo _).mono ?_
        rintro e w' ⟨rfl, rfl⟩
        go_wp2_with fail
        refine (refin_any hi _).mono ?_
        rintro e w' ⟨rfl, rfl⟩
        go_wp2
        all_goals
          go_ret
          rw [H.out]
          first | exact ⟨rfl, rfl⟩ | (refine ⟨ret_int ?_, rfl⟩; simp; omega)
    · have H := hid (show Cap.keep n lo hi = Cap.inn n by unfold Cap.keep; repeat' split <;> omega)
      · go_enter Try.func22, Try.ntmps22
        go_wp2_with fail
        refine (refin_any n _).mono ?_
        rintro e w' ⟨rfl, rfl⟩
        go_wp2_with fail
        refine (refin_any lo _).mono ?_
        rintro e w' ⟨rfl, rfl⟩
        go_wp2_with fail
        refine (refin_any hi _).mono ?_
        rintro e w' ⟨rfl, rfl⟩
        go_wp2
        all_goals
          go_ret
          rw [H.out]
          first | exact ⟨rfl, rfl⟩ | (refine ⟨ret_int ?_, rfl⟩; simp; omega)

set_option maxHeartbeats 1000000 in
theorem later_any (t n : Int) (h0 : 0 ≤ t) (h1 : t ≤ 4294967295) (w : World) : Calls Try.prog 20 #[.int .u32 t, .int .i64 n] w fun e w' => e = .returned (.int .u32 (Cap.later t n)) ∧ w = w' := by
  obtain ⟨hA1, hA2⟩ := Cap.inn_bd n
  rcases Int.lt_or_le 4294967295 (t + Cap.inn n) with h | h
  · have H := hid (show Cap.later t n = 4294967295 by unfold Cap.later; rw [if_pos h])
    go_enter Try.func20, Try.ntmps20
    go_wp2_with fail
    refine (within_any n _).mono ?_
    rintro e w' ⟨rfl, rfl⟩
    go_wp2
    all_goals
      go_ret
      rw [H.out]
      first | exact ⟨rfl, rfl⟩ | (refine ⟨ret_int ?_, rfl⟩; simp; omega)
  · have H := hid (show Cap.later t n = t + Cap.inn n by unfold Cap.later; rw [if_neg (by omega)])
    go_enter Try.func20, Try.ntmps20
    go_wp2_with fail
    refine (within_any n _).mono ?_
    rintro e w' ⟨rfl, rfl⟩
    go_wp2
    all_goals
      go_ret
      rw [H.out]
      first | exact ⟨rfl, rfl⟩ | (refine ⟨ret_int ?_, rfl⟩; simp; omega)

set_option maxHeartbeats 1000000 in
theorem reflater_any (t n : Int) (h0 : 0 ≤ t) (h1 : t ≤ 4294967295) (w : World) : Calls Try.prog 23 #[.int .u32 t, .int .i64 n] w fun e w' => e = .returned (.int .u32 (Cap.later t n)) ∧ w = w' := by
  obtain ⟨hA1, hA2⟩ := Cap.inn_bd n
  rcases Int.lt_or_le 4294967295 (t + Cap.inn n) with h | h
  · have H := hid (show Cap.later t n = 4294967295 by unfold Cap.later; rw [if_pos h])
    go_enter Try.func23, Try.ntmps23
    go_wp2_with fail
    refine (refin_any n _).mono ?_
    rintro e w' ⟨rfl, rfl⟩
    go_wp2
    all_goals
      go_ret
      rw [H.out]
      first | exact ⟨rfl, rfl⟩ | (refine ⟨ret_int ?_, rfl⟩; simp; omega)
  · have H := hid (show Cap.later t n = t + Cap.inn n by unfold Cap.later; rw [if_neg (by omega)])
    go_enter Try.func23, Try.ntmps23
    go_wp2_with fail
    refine (refin_any n _).mono ?_
    rintro e w' ⟨rfl, rfl⟩
    go_wp2
    all_goals
      go_ret
      rw [H.out]
      first | exact ⟨rfl, rfl⟩ | (refine ⟨ret_int ?_, rfl⟩; simp; omega)

set_option maxHeartbeats 400000 in
theorem left_any (a b : Int) (w : World) : Calls Try.prog 19 #[.int .i64 a, .int .i64 b] w fun e w' => e = .returned (.int .i64 (Cap.sub a b)) ∧ w = w' := by
  go_enter Try.func19, Try.ntmps19
  go_wp2_with fail
  refine (sub_any a b _).mono ?_
  rintro e w' ⟨rfl, rfl⟩
  go_wp2
  go_ret
  exact ⟨rfl, rfl⟩

end Go.Proofs.Ytccgpcllebmonaa
