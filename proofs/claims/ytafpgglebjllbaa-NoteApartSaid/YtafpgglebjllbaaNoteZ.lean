/-
  The document's writers of requests and replies: contracts.
-/
import Derived.Test.YtafpgglebjllbaaNoteX
import Derived.Test.YtafpgglebjllbaaNoteR
import Derived.Test.YtafpgglebjllbaaRefTie
namespace Go.Proofs.Ytafpgglebjllbaa
open Go.RowKit

set_option maxRecDepth 100000 in
set_option maxHeartbeats 2000000 in
theorem refrequest_no (x : Note.Q) (w : World) (hr : x.right = false) :
    Calls Try.prog 52 #[.agg #[.int .u8 (x.cl : Int), .int .u32 (x.s : Int), .int .u8 (x.k : Int), .int .u8 (x.t : Int), .int .i64 x.kk, .int .i64 x.w, .int .u32 (x.j : Int)]] w fun e w' => e = .returned (.tuple #[.slice none 0 0, .int .i64 4]) ∧ Below w.heap.size w w' := by
  have HR := hid hr
  clear hr
  go_enter Try.func52, Try.ntmps52
  go_wp2_with fail
  refine (formrequest_any x _).mono ?_
  rintro e w1 ⟨rfl, hb1⟩
  rw [HR.out]
  go_wp2
  go_ret2
  exact ⟨rfl, ((Below.refl _ _).alloc (Nat.le_refl _) _).trans (hb1.mono (by simp))⟩

set_option maxRecDepth 100000 in
set_option maxHeartbeats 4000000 in
theorem refrequest_yes (x : Note.Q) (w : World) (hx : x.wf) (hr : x.right = true) :
    Calls Try.prog 52 #[.agg #[.int .u8 (x.cl : Int), .int .u32 (x.s : Int), .int .u8 (x.k : Int), .int .u8 (x.t : Int), .int .i64 x.kk, .int .i64 x.w, .int .u32 (x.j : Int)]] w fun e w' => ∃ kv, e = .returned (.tuple #[kv, .int .i64 0]) ∧ Own w' w.heap.size kv (Knot.knot x.enc) ∧ Below w.heap.size w w' := by
  have HEL := hid (show x.enc.length ≤ 2048 from x.enc_length)
  have hw_0 := wrap_u64 x.kk
  have hw_1 := wrap_u64 x.w
  obtain ⟨b0, b1, b2, b3, b4, b5, b6, b7, b8⟩ := hx
  have HR := hid hr
  have HRO := hid (Note.Q.right_of x hr)
  clear hr
  obtain ⟨wb, hwb⟩ : ∃ wb, wb = w.alloc (.cells #[.int .u8 (x.cl : Int), .int .u32 (x.s : Int), .int .u8 (x.k : Int), .int .u8 (x.t : Int), .int .i64 x.kk, .int .i64 x.w, .int .u32 (x.j : Int)] 48) := ⟨_, rfl⟩
  have hbx0 : wb.heap[w.heap.size]? = some (.cells #[.int .u8 (x.cl : Int), .int .u32 (x.s : Int), .int .u8 (x.k : Int), .int .u8 (x.t : Int), .int .i64 x.kk, .int .i64 x.w, .int .u32 (x.j : Int)] 48 (0, 0)) := by rw [hwb]; exact heap_alloc_new w _
  have hB0 : Below w.heap.size w wb := by rw [hwb]; exact (Below.refl _ _).alloc (Nat.le_refl _) _
  have hs0 : w.heap.size < wb.heap.size := by rw [hwb]; simp
  have HWB := hid hwb
  clear hwb
  have hc0 : wb.cell? ⟨w.heap.size, 0, none⟩ = some (.int .u8 (x.cl : Int)) := (cell_of_row _ _ _ _ _ _ hbx0).trans rfl
  have hc1 : wb.cell? ⟨w.heap.size, 1, none⟩ = some (.int .u32 (x.s : Int)) := (cell_of_row _ _ _ _ _ _ hbx0).trans rfl
  have hc2 : wb.cell? ⟨w.heap.size, 2, none⟩ = some (.int .u8 (x.k : Int)) := (cell_of_row _ _ _ _ _ _ hbx0).trans rfl
  have hc3 : wb.cell? ⟨w.heap.size, 3, none⟩ = some (.int .u8 (x.t : Int)) := (cell_of_row _ _ _ _ _ _ hbx0).trans rfl
  have hc4 : wb.cell? ⟨w.heap.size, 4, none⟩ = some (.int .i64 x.kk) := (cell_of_row _ _ _ _ _ _ hbx0).trans rfl
  have hc5 : wb.cell? ⟨w.heap.size, 5, none⟩ = some (.int .i64 x.w) := (cell_of_row _ _ _ _ _ _ hbx0).trans rfl
  have hc6 : wb.cell? ⟨w.heap.size, 6, none⟩ = some (.int .u32 (x.j : Int)) := (cell_of_row _ _ _ _ _ _ hbx0).trans rfl
  go_enter Try.func52, Try.ntmps52
  go_wp2_with fail
  rw [← HWB.out]
  refine (formrequest_any x _).mono ?_
  rintro e w1 ⟨rfl, hb1⟩
  rw [HR.out]
  have hbx1 := (hb1.block _ hs0).trans hbx0
  have hB1 := hB0.trans (hb1.mono hB0.size)
  have hs1 : w.heap.size < w1.heap.size := by have := hb1.size; omega
  clear hc0 hc1 hc2 hc3 hc4 hc5 hc6
  have hc0 : w1.cell? ⟨w.heap.size, 0, none⟩ = some (.int .u8 (x.cl : Int)) := (cell_of_row _ _ _ _ _ _ hbx1).trans rfl
  have hc1 : w1.cell? ⟨w.heap.size, 1, none⟩ = some (.int .u32 (x.s : Int)) := (cell_of_row _ _ _ _ _ _ hbx1).trans rfl
  have hc2 : w1.cell? ⟨w.heap.size, 2, none⟩ = some (.int .u8 (x.k : Int)) := (cell_of_row _ _ _ _ _ _ hbx1).trans rfl
  have hc3 : w1.cell? ⟨w.heap.size, 3, none⟩ = some (.int .u8 (x.t : Int)) := (cell_of_row _ _ _ _ _ _ hbx1).trans rfl
  have hc4 : w1.cell? ⟨w.heap.size, 4, none⟩ = some (.int .i64 x.kk) := (cell_of_row _ _ _ _ _ _ hbx1).trans rfl
  have hc5 : w1.cell? ⟨w.heap.size, 5, none⟩ = some (.int .i64 x.w) := (cell_of_row _ _ _ _ _ _ hbx1).trans rfl
  have hc6 : w1.cell? ⟨w.heap.size, 6, none⟩ = some (.int .u32 (x.j : Int)) := (cell_of_row _ _ _ _ _ _ hbx1).trans rfl
  have HU := hid (heap_alloc_new w1 (.cells ([x.cl, x.s, x.k, x.t, (Note.u64 x.kk), (Note.u64 x.w), x.j].map (fun n : Nat => Value.int .u64 (n : Int))).toArray 71))
  have HF := hid (show fits64 [x.cl, x.s, x.k, x.t, (Note.u64 x.kk), (Note.u64 x.w), x.j] from by
    intro j hj
    have hj2 : j = 0 ∨ j = 1 ∨ j = 2 ∨ j = 3 ∨ j = 4 ∨ j = 5 ∨ j = 6 := by simp at hj; omega
    rcases hj2 with rfl | rfl | rfl | rfl | rfl | rfl | rfl
    all_goals simp
    all_goals first | omega | exact Note.u64_lt _)
  have HBA := hid (hB1.alloc hB1.size (.cells ([x.cl, x.s, x.k, x.t, (Note.u64 x.kk), (Note.u64 x.w), x.j].map (fun n : Nat => Value.int .u64 (n : Int))).toArray 71))
  go_wp2_with fail
  refine (refnums_any w1.heap.size 2 [x.cl, x.s, x.k, x.t, (Note.u64 x.kk), (Note.u64 x.w), x.j] _ HU.out (by omega) (by simp) HF.out 7 rfl 2 rfl).mono ?_
  rintro e w2 ⟨u2, rfl, ho2, hb2⟩
  have HEQ := hid (show Note.nums (2 :: [x.cl, x.s, x.k, x.t, (Note.u64 x.kk), (Note.u64 x.w), x.j]) = x.enc from by unfold Note.Q.enc Note.enc Note.tail; rw [List.append_nil]; rfl)
  rw [HEQ.out] at ho2
  have hs2 := hb2.size
  simp at hs2
  go_wp2_with fail
  refine (reftie_any u2 x.enc w2 ho2.rd HEL.out).mono ?_
  rintro e w3 ⟨kv, rfl, ho3, hb3⟩
  have hB3 := HBA.out.trans ((hb2.mono (by simp; omega)).trans (hb3.mono (by omega)))
  clear hc0 hc1 hc2 hc3 hc4 hc5 hc6
  go_wp2
  go_ret2
  exact ⟨kv, rfl, ho3.base (fun k hk => by have := (ho3.lt k hk).1; omega), hB3⟩


set_option maxRecDepth 100000 in
set_option maxHeartbeats 4000000 in
theorem refreply_no (x : Note.R) (w : World) (hr : x.right = false) :
    Calls Try.prog 56 #[.agg #[.int .u8 (x.cl : Int), .int .u32 (x.s : Int), .int .i64 x.e, .int .u32 (x.j : Int), .int .u8 (x.st : Int), .int .i64 x.c]] w fun e w' => e = .returned (.tuple #[.slice none 0 0, .int .i64 4]) ∧ Below w.heap.size w w' := by
  have HR := hid hr
  clear hr
  by_cases c0 : x.cl ≤ 7
  · skip
    have d0_0 : ¬ 7 < (x.cl : Int) := by omega
    by_cases c1 : 0 ≤ x.e
    · skip
      have d1_0 : ¬ x.e < 0 := by omega
      by_cases c2 : x.e ≤ 16
      · skip
        have d2_0 : ¬ 16 < x.e := by omega
        by_cases c3 : x.st ≤ 5
        · skip
          have d3_0 : ¬ 5 < (x.st : Int) := by omega
          by_cases c4 : 0 ≤ x.c
          · skip
            have d4_0 : ¬ x.c < 0 := by omega
            by_cases c5 : x.c ≤ 10000
            · skip
              have d5_0 : ¬ 10000 < x.c := by omega
              exact absurd HR.out (by unfold Note.R.right; first | (simp [*]; done) | (simp [*]; omega))
            · skip
              have d5_0 : 10000 < x.c := by omega
              go_enter Try.func56, Try.ntmps56
              go_wp2
              go_ret2
              exact ⟨rfl, (Below.refl _ _).alloc (Nat.le_refl _) _⟩
          · skip
            have d4_0 : x.c < 0 := by omega
            go_enter Try.func56, Try.ntmps56
            go_wp2
            go_ret2
            exact ⟨rfl, (Below.refl _ _).alloc (Nat.le_refl _) _⟩
        · skip
          have d3_0 : 5 < (x.st : Int) := by omega
          go_enter Try.func56, Try.ntmps56
          go_wp2
          go_ret2
          exact ⟨rfl, (Below.refl _ _).alloc (Nat.le_refl _) _⟩
      · skip
        have d2_0 : 16 < x.e := by omega
        go_enter Try.func56, Try.ntmps56
        go_wp2
        go_ret2
        exact ⟨rfl, (Below.refl _ _).alloc (Nat.le_refl _) _⟩
    · skip
      have d1_0 : x.e < 0 := by omega
      go_enter Try.func56, Try.ntmps56
      go_wp2
      go_ret2
      exact ⟨rfl, (Below.refl _ _).alloc (Nat.le_refl _) _⟩
  · skip
    have d0_0 : 7 < (x.cl : Int) := by omega
    go_enter Try.func56, Try.ntmps56
    go_wp2
    go_ret2
    exact ⟨rfl, (Below.refl _ _).alloc (Nat.le_refl _) _⟩

set_option maxRecDepth 100000 in
set_option maxHeartbeats 4000000 in
theorem refreply_yes (x : Note.R) (w : World) (hx : x.wf) (hr : x.right = true) :
    Calls Try.prog 56 #[.agg #[.int .u8 (x.cl : Int), .int .u32 (x.s : Int), .int .i64 x.e, .int .u32 (x.j : Int), .int .u8 (x.st : Int), .int .i64 x.c]] w fun e w' => ∃ kv, e = .returned (.tuple #[kv, .int .i64 0]) ∧ Own w' w.heap.size kv (Knot.knot x.enc) ∧ Below w.heap.size w w' := by
  have HEL := hid (show x.enc.length ≤ 2048 from x.enc_length)
  have hw_0 := wrap_u64 x.e
  have hw_1 := wrap_u64 x.c
  obtain ⟨b0, b1, b2, b3, b4, b5, b6, b7⟩ := hx
  have HR := hid hr
  have HRO := hid (Note.R.right_of x hr)
  clear hr
  have d0_0 : ¬ 7 < (x.cl : Int) := by have := HRO.out; omega
  have d1_0 : ¬ x.e < 0 := by have := HRO.out; omega
  have d2_0 : ¬ 16 < x.e := by have := HRO.out; omega
  have d3_0 : ¬ 5 < (x.st : Int) := by have := HRO.out; omega
  have d4_0 : ¬ x.c < 0 := by have := HRO.out; omega
  have d5_0 : ¬ 10000 < x.c := by have := HRO.out; omega
  obtain ⟨w1, hw1⟩ : ∃ w1, w1 = w.alloc (.cells #[.int .u8 (x.cl : Int), .int .u32 (x.s : Int), .int .i64 x.e, .int .u32 (x.j : Int), .int .u8 (x.st : Int), .int .i64 x.c] 54) := ⟨_, rfl⟩
  have hbx1 : w1.heap[w.heap.size]? = some (.cells #[.int .u8 (x.cl : Int), .int .u32 (x.s : Int), .int .i64 x.e, .int .u32 (x.j : Int), .int .u8 (x.st : Int), .int .i64 x.c] 54 (0, 0)) := by rw [hw1]; exact heap_alloc_new w _
  have hB1 : Below w.heap.size w w1 := by rw [hw1]; exact (Below.refl _ _).alloc (Nat.le_refl _) _
  have hs1 : w.heap.size < w1.heap.size := by rw [hw1]; simp
  have HWB := hid hw1
  have HSZ1 := hid (show w1.heap.size = w.heap.size + 1 by rw [hw1]; simp)
  clear hw1
  go_enter Try.func56, Try.ntmps56
  have HU := hid (show (w1.alloc (.cells ([x.cl, x.s, (Note.u64 x.e), x.j, x.st, (Note.u64 x.c)].map (fun n : Nat => Value.int .u64 (n : Int))).toArray 71)).heap[w.heap.size + 1]? = some (.cells ([x.cl, x.s, (Note.u64 x.e), x.j, x.st, (Note.u64 x.c)].map (fun n : Nat => Value.int .u64 (n : Int))).toArray 71) from by have h := heap_alloc_new w1 (.cells ([x.cl, x.s, (Note.u64 x.e), x.j, x.st, (Note.u64 x.c)].map (fun n : Nat => Value.int .u64 (n : Int))).toArray 71); rwa [HSZ1.out] at h)
  have HF := hid (show fits64 [x.cl, x.s, (Note.u64 x.e), x.j, x.st, (Note.u64 x.c)] from by
    intro j hj
    have hj2 : j = 0 ∨ j = 1 ∨ j = 2 ∨ j = 3 ∨ j = 4 ∨ j = 5 := by simp at hj; omega
    rcases hj2 with rfl | rfl | rfl | rfl | rfl | rfl
    all_goals simp
    all_goals first | omega | exact Note.u64_lt _)
  have HBA := hid (hB1.alloc hB1.size (.cells ([x.cl, x.s, (Note.u64 x.e), x.j, x.st, (Note.u64 x.c)].map (fun n : Nat => Value.int .u64 (n : Int))).toArray 71))
  go_wp2_with fail
  rw [← HWB.out]
  refine (refnums_any (w.heap.size + 1) 3 [x.cl, x.s, (Note.u64 x.e), x.j, x.st, (Note.u64 x.c)] _ HU.out (by omega) (by simp) HF.out 6 rfl 3 rfl).mono ?_
  rintro e w2 ⟨u2, rfl, ho2, hb2⟩
  have HEQ := hid (show Note.nums (3 :: [x.cl, x.s, (Note.u64 x.e), x.j, x.st, (Note.u64 x.c)]) = x.enc from by unfold Note.R.enc Note.enc Note.tail; rw [List.append_nil]; rfl)
  rw [HEQ.out] at ho2
  have hs2 := hb2.size
  simp at hs2
  go_wp2_with fail
  refine (reftie_any u2 x.enc w2 ho2.rd HEL.out).mono ?_
  rintro e w3 ⟨kv, rfl, ho3, hb3⟩
  have hB3 := HBA.out.trans ((hb2.mono (by simp; omega)).trans (hb3.mono (by omega)))
  go_wp2
  go_ret2
  exact ⟨kv, rfl, ho3.base (fun k hk => by have := (ho3.lt k hk).1; omega), hB3⟩


end Go.Proofs.Ytafpgglebjllbaa
