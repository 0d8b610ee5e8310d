/-
  Later, the code's and the document's.
-/
import Derived.Test.YtljnkebmdegcpaaRows
import Derived.WalkSpells
import Derived.WalkLawsBesides
import Derived.Test.YtljnkebmdegcpaaLeaM
namespace Go.Proofs.Ytljnkebmdegcpaa
open Go.RowKit

set_option maxHeartbeats 400000 in
theorem within_any (n : Int) (w : World) : Calls Try.prog 23 #[.int .i64 n] w fun e w' => e = .returned (.int .i64 (Cap.inn n)) ∧ w = w' := by
  rcases Int.lt_or_le n 0 with h | h
  · have H := hid (Cap.inn_lo n h)
    go_enter Try.func23, Try.ntmps23
    go_wp2
    go_ret
    rw [H.out]
    exact ⟨rfl, rfl⟩
  · rcases Int.lt_or_le 1099511627776 n with h2 | h2
    · have H := hid (Cap.inn_hi n h2)
      go_enter Try.func23, Try.ntmps23
      go_wp2
      go_ret
      rw [H.out]
      exact ⟨rfl, rfl⟩
    · have H := hid (Cap.inn_in n h h2)
      go_enter Try.func23, Try.ntmps23
      go_wp2
      go_ret
      rw [H.out]
      exact ⟨rfl, rfl⟩

set_option maxHeartbeats 400000 in
theorem refin_any (n : Int) (w : World) : Calls Try.prog 21 #[.int .i64 n] w fun e w' => e = .returned (.int .i64 (Cap.inn n)) ∧ w = w' := by
  rcases Int.lt_or_le n 0 with h | h
  · have H := hid (Cap.inn_lo n h)
    go_enter Try.func21, Try.ntmps21
    go_wp2
    go_ret
    rw [H.out]
    exact ⟨rfl, rfl⟩
  · rcases Int.lt_or_le 1099511627776 n with h2 | h2
    · have H := hid (Cap.inn_hi n h2)
      go_enter Try.func21, Try.ntmps21
      go_wp2
      go_ret
      rw [H.out]
      exact ⟨rfl, rfl⟩
    · have H := hid (Cap.inn_in n h h2)
      go_enter Try.func21, Try.ntmps21
      go_wp2
      go_ret
      rw [H.out]
      exact ⟨rfl, rfl⟩

set_option maxHeartbeats 1000000 in
theorem later_any (t n : Int) (h0 : 0 ≤ t) (h1 : t ≤ 4294967295) (w : World) : Calls Try.prog 22 #[.int .u32 t, .int .i64 n] w fun e w' => e = .returned (.int .u32 (Cap.later t n)) ∧ w = w' := by
  obtain ⟨hA1, hA2⟩ := Cap.inn_bd n
  rcases Int.lt_or_le 4294967295 (t + Cap.inn n) with h | h
  · have H := hid (show Cap.later t n = 4294967295 by unfold Cap.later; rw [if_pos h])
    go_enter Try.func22, Try.ntmps22
    go_wp2_with fail
    refine (within_any n _).mono ?_
    rintro e w' ⟨rfl, rfl⟩
    go_wp2
    all_goals
      go_ret
      rw [H.out]
      first | exact ⟨rfl, rfl⟩ | (refine ⟨ret_int ?_, rfl⟩; simp; omega)
  · have H := hid (show Cap.later t n = t + Cap.inn n by unfold Cap.later; rw [if_neg (by omega)])
    go_enter Try.func22, Try.ntmps22
    go_wp2_with fail
    refine (within_any n _).mono ?_
    rintro e w' ⟨rfl, rfl⟩
    go_wp2
    all_goals
      go_ret
      rw [H.out]
      first | exact ⟨rfl, rfl⟩ | (refine ⟨ret_int ?_, rfl⟩; simp; omega)

set_option maxHeartbeats 1000000 in
theorem reflater_any (t n : Int) (h0 : 0 ≤ t) (h1 : t ≤ 4294967295) (w : World) : Calls Try.prog 17 #[.int .u32 t, .int .i64 n] w fun e w' => e = .returned (.int .u32 (Cap.later t n)) ∧ w = w' := by
  obtain ⟨hA1, hA2⟩ := Cap.inn_bd n
  rcases Int.lt_or_le 4294967295 (t + Cap.inn n) with h | h
  · have H := hid (show Cap.later t n = 4294967295 by unfold Cap.later; rw [if_pos h])
    go_enter Try.func17, Try.ntmps17
    go_wp2_with fail
    refine (refin_any n _).mono ?_
    rintro e w' ⟨rfl, rfl⟩
    go_wp2
    all_goals
      go_ret
      rw [H.out]
      first | exact ⟨rfl, rfl⟩ | (refine ⟨ret_int ?_, rfl⟩; simp; omega)
  · have H := hid (show Cap.later t n = t + Cap.inn n by unfold Cap.later; rw [if_neg (by omega)])
    go_enter Try.func17, Try.ntmps17
    go_wp2_with fail
    refine (refin_any n _).mono ?_
    rintro e w' ⟨rfl, rfl⟩
    go_wp2
    all_goals
      go_ret
      rw [H.out]
      first | exact ⟨rfl, rfl⟩ | (refine ⟨ret_int ?_, rfl⟩; simp; omega)

end Go.Proofs.Ytljnkebmdegcpaa
