/-
  cap's numbers, the code's and the document's: their contracts.
-/
import Derived.Test.YtajdhnhnknmedaaRows
import Derived.WalkSpells
import Derived.WalkLawsBesides
import Derived.Test.YtajdhnhnknmedaaCapM
namespace Go.Proofs.Ytajdhnhnknmedaa
open Go.RowKit

theorem hid {p : Prop} (h : p) : Hid p := h

theorem ret_int {k : IntKind} {a b : Int} (h : a = b) : Ending.returned (.int k a) = .returned (.int k b) := by rw [h]

set_option maxHeartbeats 400000 in
theorem within_any (n : Int) (w : World) : Calls Try.prog 11 #[.int .i64 n] w fun e w' => e = .returned (.int .i64 (Cap.inn n)) ∧ w = w' := by
  rcases Int.lt_or_le n 0 with h | h
  · have H := hid (Cap.inn_lo n h)
    go_enter Try.func11, Try.ntmps11
    go_wp2
    go_ret
    rw [H.out]
    exact ⟨rfl, rfl⟩
  · rcases Int.lt_or_le 1099511627776 n with h2 | h2
    · have H := hid (Cap.inn_hi n h2)
      go_enter Try.func11, Try.ntmps11
      go_wp2
      go_ret
      rw [H.out]
      exact ⟨rfl, rfl⟩
    · have H := hid (Cap.inn_in n h h2)
      go_enter Try.func11, Try.ntmps11
      go_wp2
      go_ret
      rw [H.out]
      exact ⟨rfl, rfl⟩

/-! GEN: numbers of two -/

set_option maxHeartbeats 400000 in
theorem sub_any (a b : Int) (w : World) : Calls Try.prog 8 #[.int .i64 a, .int .i64 b] w fun e w' => e = .returned (.int .i64 (Cap.sub a b)) ∧ w = w' := by
  have ha := Cap.inn_bd a
  have hb := Cap.inn_bd b
  go_enter Try.func8, Try.ntmps8
  go_wp2_with fail
  refine (within_any a _).mono ?_
  rintro e w' ⟨rfl, rfl⟩
  go_wp2_with fail
  refine (within_any b _).mono ?_
  rintro e w' ⟨rfl, rfl⟩
  go_wp2_with fail
  refine (within_any _ _).mono ?_
  rintro e w' ⟨rfl, rfl⟩
  go_wp2
  go_ret
  exact ⟨rfl, rfl⟩

set_option maxHeartbeats 1000000 in
theorem up_any (a b : Int) (w : World) : Calls Try.prog 9 #[.int .i64 a, .int .i64 b] w fun e w' => e = .returned (.int .i64 (Cap.up a b)) ∧ w = w' := by
  obtain ⟨hA1, hA2⟩ := Cap.inn_bd a
  obtain ⟨hB1, hB2⟩ := Cap.inn_bd b
  rcases Int.lt_or_le 0 (Cap.inn b) with h | h
  · have H := hid (Cap.up_pos a b h)
    have hz2 : (Cap.inn b == 0) = false := by rw [beq_eq_false_iff_ne]; omega
    have hp : 0 ≤ Cap.inn a + Cap.inn b - 1 := by omega
    go_enter Try.func9, Try.ntmps9
    go_wp2_with fail
    refine (within_any a _).mono ?_
    rintro e w' ⟨rfl, rfl⟩
    go_wp2_with fail
    refine (within_any b _).mono ?_
    rintro e w' ⟨rfl, rfl⟩
    go_wp2
    go_ret
    rw [H.out]
    exact ⟨rfl, rfl⟩
  · have g0 : Cap.inn b = 0 := by omega
    have H := hid (Cap.up_zero a b g0)
    have G0 := hid g0
    clear g0 h hB1 hB2
    go_enter Try.func9, Try.ntmps9
    go_wp2_with fail
    refine (within_any a _).mono ?_
    rintro e w' ⟨rfl, rfl⟩
    go_wp2_with fail
    refine (within_any b _).mono ?_
    rintro e w' ⟨rfl, rfl⟩
    rw [G0.out]
    go_wp2
    go_ret
    rw [H.out]
    exact ⟨rfl, rfl⟩

set_option maxHeartbeats 1000000 in
theorem later_any (t n : Int) (h0 : 0 ≤ t) (h1 : t ≤ 4294967295) (w : World) : Calls Try.prog 10 #[.int .u32 t, .int .i64 n] w fun e w' => e = .returned (.int .u32 (Cap.later t n)) ∧ w = w' := by
  obtain ⟨hA1, hA2⟩ := Cap.inn_bd n
  rcases Int.lt_or_le 4294967295 (t + Cap.inn n) with h | h
  · have H := hid (show Cap.later t n = 4294967295 by unfold Cap.later; rw [if_pos h])
    go_enter Try.func10, Try.ntmps10
    go_wp2_with fail
    refine (within_any n _).mono ?_
    rintro e w' ⟨rfl, rfl⟩
    go_wp2
    all_goals
      go_ret
      rw [H.out]
      first | exact ⟨rfl, rfl⟩ | (refine ⟨ret_int ?_, rfl⟩; simp; omega)
  · have H := hid (show Cap.later t n = t + Cap.inn n by unfold Cap.later; rw [if_neg (by omega)])
    go_enter Try.func10, Try.ntmps10
    go_wp2_with fail
    refine (within_any n _).mono ?_
    rintro e w' ⟨rfl, rfl⟩
    go_wp2
    all_goals
      go_ret
      rw [H.out]
      first | exact ⟨rfl, rfl⟩ | (refine ⟨ret_int ?_, rfl⟩; simp; omega)

end Go.Proofs.Ytajdhnhnknmedaa
