/-
  The writers, the code's, of what is right: contracts.
-/
import Derived.Test.YtahiaifdfgkemaaNoteX
import Derived.Test.YtahiaifdfgkemaaPen3
import Derived.Test.YtahiaifdfgkemaaTie
import Derived.Test.YtahiaifdfgkemaaAwake1
namespace Go.Proofs.Ytahiaifdfgkemaa
open Go.RowKit

set_option maxRecDepth 100000 in
set_option maxHeartbeats 4000000 in
theorem request_yes (x : Note.Q) (w : World) (hx : x.wf) (hr : x.right = true) :
    Calls Try.prog 34 #[.agg #[.int .u8 (x.cl : Int), .int .u32 (x.s : Int), .int .u8 (x.k : Int), .int .u8 (x.t : Int), .int .i64 x.kk, .int .i64 x.w, .int .u32 (x.j : Int)]] w fun e w' => ∃ kv, e = .returned (.tuple #[kv, .int .i64 0]) ∧ Own w' w.heap.size kv (Knot.knot x.enc) ∧ Below w.heap.size w w' := by
  have HX := hid hx
  have HEL := hid (show x.enc.length ≤ 2048 from x.enc_length)
  have hw0 := wrap_u64 x.kk
  have hw1 := wrap_u64 x.w
  have HWF := hid hx
  obtain ⟨b0, b1, b2, b3, b4, b5, b6, b7, b8⟩ := hx
  have HR := hid hr
  clear hr
  obtain ⟨wb, hwb⟩ : ∃ wb, wb = w.alloc (.cells #[.int .u8 (x.cl : Int), .int .u32 (x.s : Int), .int .u8 (x.k : Int), .int .u8 (x.t : Int), .int .i64 x.kk, .int .i64 x.w, .int .u32 (x.j : Int)] 33) := ⟨_, rfl⟩
  have hbx0 : wb.heap[w.heap.size]? = some (.cells #[.int .u8 (x.cl : Int), .int .u32 (x.s : Int), .int .u8 (x.k : Int), .int .u8 (x.t : Int), .int .i64 x.kk, .int .i64 x.w, .int .u32 (x.j : Int)] 33 (0, 0)) := by rw [hwb]; exact heap_alloc_new w _
  have hB0 : Below w.heap.size w wb := by rw [hwb]; exact (Below.refl _ _).alloc (Nat.le_refl _) _
  have hs0 : w.heap.size < wb.heap.size := by rw [hwb]; simp
  have HWB := hid hwb
  clear hwb
  have hc0 : wb.cell? ⟨w.heap.size, 0, none⟩ = some (.int .u8 (x.cl : Int)) := (cell_of_row _ _ _ _ _ _ hbx0).trans rfl
  have hc1 : wb.cell? ⟨w.heap.size, 1, none⟩ = some (.int .u32 (x.s : Int)) := (cell_of_row _ _ _ _ _ _ hbx0).trans rfl
  have hc2 : wb.cell? ⟨w.heap.size, 2, none⟩ = some (.int .u8 (x.k : Int)) := (cell_of_row _ _ _ _ _ _ hbx0).trans rfl
  have hc3 : wb.cell? ⟨w.heap.size, 3, none⟩ = some (.int .u8 (x.t : Int)) := (cell_of_row _ _ _ _ _ _ hbx0).trans rfl
  have hc4 : wb.cell? ⟨w.heap.size, 4, none⟩ = some (.int .i64 x.kk) := (cell_of_row _ _ _ _ _ _ hbx0).trans rfl
  have hc5 : wb.cell? ⟨w.heap.size, 5, none⟩ = some (.int .i64 x.w) := (cell_of_row _ _ _ _ _ _ hbx0).trans rfl
  have hc6 : wb.cell? ⟨w.heap.size, 6, none⟩ = some (.int .u32 (x.j : Int)) := (cell_of_row _ _ _ _ _ _ hbx0).trans rfl
  go_enter Try.func34, Try.ntmps34
  go_wp2_with fail
  rw [← HWB.out]
  refine (rightrequest_any x _).mono ?_
  rintro e w1 ⟨rfl, hb1⟩
  rw [HR.out]
  have hbx1 := (hb1.block _ hs0).trans hbx0
  have hB1 := hB0.trans (hb1.mono hB0.size)
  have hs1 : w.heap.size < w1.heap.size := by have := hb1.size; omega
  clear hc0 hc1 hc2 hc3 hc4 hc5 hc6
  go_wp2_with fail
  refine (new_any w1).mono ?_
  rintro e w2 ⟨rfl, hp2, hb2, hsz2⟩
  have hbx2 := (hb2.block _ hs1).trans hbx1
  have hB2 := hB1.trans (hb2.mono hB1.size)
  have hs2 : w1.heap.size < w2.heap.size := by omega
  have HSZ2 := hid hsz2
  clear hb1 hB0 hB1 hbx0 hbx1 hs0 hb2 hsz2
  have hc0 : w2.cell? ⟨w.heap.size, 0, none⟩ = some (.int .u8 (x.cl : Int)) := (cell_of_row _ _ _ _ _ _ hbx2).trans rfl
  have hc1 : w2.cell? ⟨w.heap.size, 1, none⟩ = some (.int .u32 (x.s : Int)) := (cell_of_row _ _ _ _ _ _ hbx2).trans rfl
  have hc2 : w2.cell? ⟨w.heap.size, 2, none⟩ = some (.int .u8 (x.k : Int)) := (cell_of_row _ _ _ _ _ _ hbx2).trans rfl
  have hc3 : w2.cell? ⟨w.heap.size, 3, none⟩ = some (.int .u8 (x.t : Int)) := (cell_of_row _ _ _ _ _ _ hbx2).trans rfl
  have hc4 : w2.cell? ⟨w.heap.size, 4, none⟩ = some (.int .i64 x.kk) := (cell_of_row _ _ _ _ _ _ hbx2).trans rfl
  have hc5 : w2.cell? ⟨w.heap.size, 5, none⟩ = some (.int .i64 x.w) := (cell_of_row _ _ _ _ _ _ hbx2).trans rfl
  have hc6 : w2.cell? ⟨w.heap.size, 6, none⟩ = some (.int .u32 (x.j : Int)) := (cell_of_row _ _ _ _ _ _ hbx2).trans rfl
  have hA := (Below.refl w2.heap.size w2).alloc (Nat.le_refl _) (.cells ([2, x.cl, x.s, x.k, x.t, (Note.u64 x.kk), (Note.u64 x.w), x.j].map (fun n : Nat => Value.int .u64 (n : Int))).toArray 72)
  have hp3 := hid (hp2.below hA)
  have HU := hid (heap_alloc_new w2 (.cells ([2, x.cl, x.s, x.k, x.t, (Note.u64 x.kk), (Note.u64 x.w), x.j].map (fun n : Nat => Value.int .u64 (n : Int))).toArray 72))
  have HSEP := hid (show ¬ penS w1.heap.size (.slice none 0 0) w2.heap.size from by
    rintro (h | h)
    · omega
    · cases h)
  have HF := hid (show fits64 [2, x.cl, x.s, x.k, x.t, (Note.u64 x.kk), (Note.u64 x.w), x.j] from by
    intro j hj
    have hj2 : j = 0 ∨ j = 1 ∨ j = 2 ∨ j = 3 ∨ j = 4 ∨ j = 5 ∨ j = 6 ∨ j = 7 := by simp at hj; omega
    rcases hj2 with rfl | rfl | rfl | rfl | rfl | rfl | rfl | rfl
    all_goals simp
    all_goals first | omega | exact Note.u64_lt _)
  have HB3 := hid (hB2.trans (hA.mono (by omega)))
  have hs3 : w2.heap.size < (w2.alloc (.cells ([2, x.cl, x.s, x.k, x.t, (Note.u64 x.kk), (Note.u64 x.w), x.j].map (fun n : Nat => Value.int .u64 (n : Int))).toArray 72)).heap.size := by simp
  have HBX3 := hid ((hA.block w.heap.size (by omega)).trans hbx2)
  clear hA hp2
  go_wp2_with fail
  refine (write_any w1.heap.size w1.heap.size w2.heap.size (.slice none 0 0) [] [2, x.cl, x.s, x.k, x.t, (Note.u64 x.kk), (Note.u64 x.w), x.j] _ hp3.out HU.out HSEP.out (by simp) HF.out (by simp; omega) 8 rfl).mono ?_
  rintro e w4 ⟨rfl, hwr⟩
  obtain ⟨v4, hp4, hk4, hf4⟩ := hwr.pen
  have hs4 := hk4.size
  have hbx4 := (hk4.block w.heap.size (by omega) (fun h => by rcases h with h | h <;> first | omega | cases h)).trans HBX3.out
  have HB4 := hid (HB3.out.trans (hk4.below (B := w.heap.size) (by omega) (fun i hi => by rcases hi with hi | hi <;> first | omega | cases hi)))
  have hv4 : ∀ q, v4.ownBlock = some q → w2.heap.size < q := fun q hq => by
    rcases hf4 q hq with h | h
    · cases h
    · simp at h; omega
  rw [List.nil_append] at hp4
  clear hc0 hc1 hc2 hc3 hc4 hc5 hc6
  clear hwr hk4 hf4 hbx2 hB2
  have HEQ := hid (show Note.nums [2, x.cl, x.s, x.k, x.t, (Note.u64 x.kk), (Note.u64 x.w), x.j] = x.enc from (by unfold Note.Q.enc Note.enc Note.tail; rw [List.append_nil]; rfl))
  rw [HEQ.out] at hp4
  go_wp2_with fail
  refine (penbytes_any w1.heap.size w1.heap.size v4 x.enc false w4 hp4 (by have := HEL.out; omega)).mono ?_
  rintro e w8 ⟨u8, rfl, ho8, hb8⟩
  go_wp2_with fail
  refine (tie_any u8 x.enc w8 ho8.rd HEL.out).mono ?_
  rintro e w9 ⟨kv, rfl, ho9, hb9⟩
  have h8 := hb8.size
  have hB9 := HB4.out.trans ((hb8.mono (by omega)).trans (hb9.mono (by omega)))
  go_wp2
  go_ret2
  exact ⟨kv, rfl, ho9.base (fun k hk => by have := (ho9.lt k hk).1; omega), hB9⟩

end Go.Proofs.Ytahiaifdfgkemaa
