/-
  The writers, the code's, of what is right: contracts.
-/
import Derived.Test.YtafpgglebjllbaaNoteX
import Derived.Test.YtafpgglebjllbaaPen3
import Derived.Test.YtafpgglebjllbaaTie
import Derived.Test.YtafpgglebjllbaaAwake1
namespace Go.Proofs.Ytafpgglebjllbaa
open Go.RowKit

set_option maxRecDepth 100000 in
set_option maxHeartbeats 4000000 in
theorem note_yes (x : Note.N) (ad : Option Addr) (cp L : Nat) (hL : L = x.b.length) (w : World) (hx : x.wf) (hrd : Rd w (.slice ad L cp) x.b) (hob : ∀ k, (Value.slice ad L cp).ownBlock = some k → k < w.heap.size) (hr : x.right = true) :
    Calls Try.prog 10 #[.agg #[.int .u8 (x.k : Int), .int .u8 (x.n : Int), .int .u32 (x.e : Int), .int .u32 (x.l : Int), .int .u32 (x.t : Int), .int .u32 (x.g : Int), .int .u32 (x.j : Int), .int .u32 (x.v : Int), .int .u8 (x.r : Int), .int .i64 x.c, .int .u32 (x.f : Int), .int .u32 (x.o : Int), .slice ad L cp]] w fun e w' => ∃ kv, e = .returned (.tuple #[kv, .int .i64 0]) ∧ Own w' w.heap.size kv (Knot.knot x.enc) ∧ Below w.heap.size w w' := by
  have HX := hid hx
  have HEL := hid (show x.enc.length ≤ 2048 from x.enc_length hr)
  have hw0 := wrap_u64 x.c
  have HWF := hid hx
  obtain ⟨b0, b1, b2, b3, b4, b5, b6, b7, b8, b9, b10, b11, b12⟩ := hx
  have HR := hid hr
  have HRO := hid (Note.N.right_of x hr)
  have HRT := hid (fun w => rightnote_any x ad cp w HX.out)
  rw [← hL] at HRT
  have HL := hid hL
  have HRD := hid hrd
  have HOB := hid hob
  clear hL hrd hob
  clear hr
  obtain ⟨wb, hwb⟩ : ∃ wb, wb = w.alloc (.cells #[.int .u8 (x.k : Int), .int .u8 (x.n : Int), .int .u32 (x.e : Int), .int .u32 (x.l : Int), .int .u32 (x.t : Int), .int .u32 (x.g : Int), .int .u32 (x.j : Int), .int .u32 (x.v : Int), .int .u8 (x.r : Int), .int .i64 x.c, .int .u32 (x.f : Int), .int .u32 (x.o : Int), .slice ad L cp] 25) := ⟨_, rfl⟩
  have hbx0 : wb.heap[w.heap.size]? = some (.cells #[.int .u8 (x.k : Int), .int .u8 (x.n : Int), .int .u32 (x.e : Int), .int .u32 (x.l : Int), .int .u32 (x.t : Int), .int .u32 (x.g : Int), .int .u32 (x.j : Int), .int .u32 (x.v : Int), .int .u8 (x.r : Int), .int .i64 x.c, .int .u32 (x.f : Int), .int .u32 (x.o : Int), .slice ad L cp] 25 (0, 0)) := by rw [hwb]; exact heap_alloc_new w _
  have hB0 : Below w.heap.size w wb := by rw [hwb]; exact (Below.refl _ _).alloc (Nat.le_refl _) _
  have hs0 : w.heap.size < wb.heap.size := by rw [hwb]; simp
  have HWB := hid hwb
  clear hwb
  have hc0 : wb.cell? ⟨w.heap.size, 0, none⟩ = some (.int .u8 (x.k : Int)) := (cell_of_row _ _ _ _ _ _ hbx0).trans rfl
  have hc1 : wb.cell? ⟨w.heap.size, 1, none⟩ = some (.int .u8 (x.n : Int)) := (cell_of_row _ _ _ _ _ _ hbx0).trans rfl
  have hc2 : wb.cell? ⟨w.heap.size, 2, none⟩ = some (.int .u32 (x.e : Int)) := (cell_of_row _ _ _ _ _ _ hbx0).trans rfl
  have hc3 : wb.cell? ⟨w.heap.size, 3, none⟩ = some (.int .u32 (x.l : Int)) := (cell_of_row _ _ _ _ _ _ hbx0).trans rfl
  have hc4 : wb.cell? ⟨w.heap.size, 4, none⟩ = some (.int .u32 (x.t : Int)) := (cell_of_row _ _ _ _ _ _ hbx0).trans rfl
  have hc5 : wb.cell? ⟨w.heap.size, 5, none⟩ = some (.int .u32 (x.g : Int)) := (cell_of_row _ _ _ _ _ _ hbx0).trans rfl
  have hc6 : wb.cell? ⟨w.heap.size, 6, none⟩ = some (.int .u32 (x.j : Int)) := (cell_of_row _ _ _ _ _ _ hbx0).trans rfl
  have hc7 : wb.cell? ⟨w.heap.size, 7, none⟩ = some (.int .u32 (x.v : Int)) := (cell_of_row _ _ _ _ _ _ hbx0).trans rfl
  have hc8 : wb.cell? ⟨w.heap.size, 8, none⟩ = some (.int .u8 (x.r : Int)) := (cell_of_row _ _ _ _ _ _ hbx0).trans rfl
  have hc9 : wb.cell? ⟨w.heap.size, 9, none⟩ = some (.int .i64 x.c) := (cell_of_row _ _ _ _ _ _ hbx0).trans rfl
  have hc10 : wb.cell? ⟨w.heap.size, 10, none⟩ = some (.int .u32 (x.f : Int)) := (cell_of_row _ _ _ _ _ _ hbx0).trans rfl
  have hc11 : wb.cell? ⟨w.heap.size, 11, none⟩ = some (.int .u32 (x.o : Int)) := (cell_of_row _ _ _ _ _ _ hbx0).trans rfl
  have hc12 : wb.cell? ⟨w.heap.size, 12, none⟩ = some (.slice ad L cp) := (cell_of_row _ _ _ _ _ _ hbx0).trans rfl
  go_enter Try.func10, Try.ntmps10
  go_wp2_with fail
  rw [← HWB.out]
  refine (HRT.out _).mono ?_
  rintro e w1 ⟨rfl, hb1⟩
  rw [HR.out]
  have hbx1 := (hb1.block _ hs0).trans hbx0
  have hB1 := hB0.trans (hb1.mono hB0.size)
  have hs1 : w.heap.size < w1.heap.size := by have := hb1.size; omega
  clear hc0 hc1 hc2 hc3 hc4 hc5 hc6 hc7 hc8 hc9 hc10 hc11 hc12
  go_wp2_with fail
  refine (new_any w1).mono ?_
  rintro e w2 ⟨rfl, hp2, hb2, hsz2⟩
  have hbx2 := (hb2.block _ hs1).trans hbx1
  have hB2 := hB1.trans (hb2.mono hB1.size)
  have hs2 : w1.heap.size < w2.heap.size := by omega
  have HSZ2 := hid hsz2
  clear hb1 hB0 hB1 hbx0 hbx1 hs0 hb2 hsz2
  have hc0 : w2.cell? ⟨w.heap.size, 0, none⟩ = some (.int .u8 (x.k : Int)) := (cell_of_row _ _ _ _ _ _ hbx2).trans rfl
  have hc1 : w2.cell? ⟨w.heap.size, 1, none⟩ = some (.int .u8 (x.n : Int)) := (cell_of_row _ _ _ _ _ _ hbx2).trans rfl
  have hc2 : w2.cell? ⟨w.heap.size, 2, none⟩ = some (.int .u32 (x.e : Int)) := (cell_of_row _ _ _ _ _ _ hbx2).trans rfl
  have hc3 : w2.cell? ⟨w.heap.size, 3, none⟩ = some (.int .u32 (x.l : Int)) := (cell_of_row _ _ _ _ _ _ hbx2).trans rfl
  have hc4 : w2.cell? ⟨w.heap.size, 4, none⟩ = some (.int .u32 (x.t : Int)) := (cell_of_row _ _ _ _ _ _ hbx2).trans rfl
  have hc5 : w2.cell? ⟨w.heap.size, 5, none⟩ = some (.int .u32 (x.g : Int)) := (cell_of_row _ _ _ _ _ _ hbx2).trans rfl
  have hc6 : w2.cell? ⟨w.heap.size, 6, none⟩ = some (.int .u32 (x.j : Int)) := (cell_of_row _ _ _ _ _ _ hbx2).trans rfl
  have hc7 : w2.cell? ⟨w.heap.size, 7, none⟩ = some (.int .u32 (x.v : Int)) := (cell_of_row _ _ _ _ _ _ hbx2).trans rfl
  have hc8 : w2.cell? ⟨w.heap.size, 8, none⟩ = some (.int .u8 (x.r : Int)) := (cell_of_row _ _ _ _ _ _ hbx2).trans rfl
  have hc9 : w2.cell? ⟨w.heap.size, 9, none⟩ = some (.int .i64 x.c) := (cell_of_row _ _ _ _ _ _ hbx2).trans rfl
  have hc10 : w2.cell? ⟨w.heap.size, 10, none⟩ = some (.int .u32 (x.f : Int)) := (cell_of_row _ _ _ _ _ _ hbx2).trans rfl
  have hc11 : w2.cell? ⟨w.heap.size, 11, none⟩ = some (.int .u32 (x.o : Int)) := (cell_of_row _ _ _ _ _ _ hbx2).trans rfl
  have hc12 : w2.cell? ⟨w.heap.size, 12, none⟩ = some (.slice ad L cp) := (cell_of_row _ _ _ _ _ _ hbx2).trans rfl
  have hA := (Below.refl w2.heap.size w2).alloc (Nat.le_refl _) (.cells ([1, x.k].map (fun n : Nat => Value.int .u64 (n : Int))).toArray 71)
  have hp3 := hid (hp2.below hA)
  have HU := hid (heap_alloc_new w2 (.cells ([1, x.k].map (fun n : Nat => Value.int .u64 (n : Int))).toArray 71))
  have HSEP := hid (show ¬ penS w1.heap.size (.slice none 0 0) w2.heap.size from by
    rintro (h | h)
    · omega
    · cases h)
  have HF := hid (show fits64 [1, x.k] from by
    intro j hj
    have hj2 : j = 0 ∨ j = 1 := by simp at hj; omega
    rcases hj2 with rfl | rfl
    all_goals simp
    all_goals first | omega | exact Note.u64_lt _)
  have HB3 := hid (hB2.trans (hA.mono (by omega)))
  have hs3 : w2.heap.size < (w2.alloc (.cells ([1, x.k].map (fun n : Nat => Value.int .u64 (n : Int))).toArray 71)).heap.size := by simp
  have HBX3 := hid ((hA.block w.heap.size (by omega)).trans hbx2)
  clear hA hp2
  go_wp2_with fail
  refine (write_any w1.heap.size w1.heap.size w2.heap.size (.slice none 0 0) [] [1, x.k] _ hp3.out HU.out HSEP.out (by simp) HF.out (by simp; omega) 2 rfl).mono ?_
  rintro e w4 ⟨rfl, hwr⟩
  obtain ⟨v4, hp4, hk4, hf4⟩ := hwr.pen
  have hs4 := hk4.size
  have hbx4 := (hk4.block w.heap.size (by omega) (fun h => by rcases h with h | h <;> first | omega | cases h)).trans HBX3.out
  have HB4 := hid (HB3.out.trans (hk4.below (B := w.heap.size) (by omega) (fun i hi => by rcases hi with hi | hi <;> first | omega | cases hi)))
  have hv4 : ∀ q, v4.ownBlock = some q → w2.heap.size < q := fun q hq => by
    rcases hf4 q hq with h | h
    · cases h
    · simp at h; omega
  rw [List.nil_append] at hp4
  clear hc0 hc1 hc2 hc3 hc4 hc5 hc6 hc7 hc8 hc9 hc10 hc11 hc12
  clear hwr hk4 hf4 hbx2 hB2
  have hc0 : w4.cell? ⟨w.heap.size, 0, none⟩ = some (.int .u8 (x.k : Int)) := (cell_of_row _ _ _ _ _ _ hbx4).trans rfl
  have hc1 : w4.cell? ⟨w.heap.size, 1, none⟩ = some (.int .u8 (x.n : Int)) := (cell_of_row _ _ _ _ _ _ hbx4).trans rfl
  have hc2 : w4.cell? ⟨w.heap.size, 2, none⟩ = some (.int .u32 (x.e : Int)) := (cell_of_row _ _ _ _ _ _ hbx4).trans rfl
  have hc3 : w4.cell? ⟨w.heap.size, 3, none⟩ = some (.int .u32 (x.l : Int)) := (cell_of_row _ _ _ _ _ _ hbx4).trans rfl
  have hc4 : w4.cell? ⟨w.heap.size, 4, none⟩ = some (.int .u32 (x.t : Int)) := (cell_of_row _ _ _ _ _ _ hbx4).trans rfl
  have hc5 : w4.cell? ⟨w.heap.size, 5, none⟩ = some (.int .u32 (x.g : Int)) := (cell_of_row _ _ _ _ _ _ hbx4).trans rfl
  have hc6 : w4.cell? ⟨w.heap.size, 6, none⟩ = some (.int .u32 (x.j : Int)) := (cell_of_row _ _ _ _ _ _ hbx4).trans rfl
  have hc7 : w4.cell? ⟨w.heap.size, 7, none⟩ = some (.int .u32 (x.v : Int)) := (cell_of_row _ _ _ _ _ _ hbx4).trans rfl
  have hc8 : w4.cell? ⟨w.heap.size, 8, none⟩ = some (.int .u8 (x.r : Int)) := (cell_of_row _ _ _ _ _ _ hbx4).trans rfl
  have hc9 : w4.cell? ⟨w.heap.size, 9, none⟩ = some (.int .i64 x.c) := (cell_of_row _ _ _ _ _ _ hbx4).trans rfl
  have hc10 : w4.cell? ⟨w.heap.size, 10, none⟩ = some (.int .u32 (x.f : Int)) := (cell_of_row _ _ _ _ _ _ hbx4).trans rfl
  have hc11 : w4.cell? ⟨w.heap.size, 11, none⟩ = some (.int .u32 (x.o : Int)) := (cell_of_row _ _ _ _ _ _ hbx4).trans rfl
  have hc12 : w4.cell? ⟨w.heap.size, 12, none⟩ = some (.slice ad L cp) := (cell_of_row _ _ _ _ _ _ hbx4).trans rfl
  go_wp2_with fail
  refine (numbers_any x (.slice ad L cp) w4 HWF.out).mono ?_
  rintro e w5 ⟨g, rfl, hg5, hgb, hb5⟩
  have hs5 := hb5.size
  have hg5l := hg5.lt
  have hp5 := hid (hp4.below hb5)
  have hbx5 := (hb5.block w.heap.size (by omega)).trans hbx4
  have HB5 := hid (HB4.out.trans (hb5.mono (by omega)))
  have HSEP5 := hid (show ¬ penS w1.heap.size v4 g from by
    rintro (h | h)
    · omega
    · have := (hp4.2.1.lt g h).2; omega)
  have HF5 := hid (show fits64 x.rest from by
    intro j hj
    have hj2 : j = 0 ∨ j = 1 ∨ j = 2 ∨ j = 3 ∨ j = 4 ∨ j = 5 ∨ j = 6 ∨ j = 7 ∨ j = 8 ∨ j = 9 ∨ j = 10 := by simp [Note.N.rest] at hj; omega
    rcases hj2 with rfl | rfl | rfl | rfl | rfl | rfl | rfl | rfl | rfl | rfl | rfl
    all_goals simp [Note.N.rest]
    all_goals first | omega | exact Note.u64_lt _)
  have HLN := hid (show (Note.nums [1, x.k]).length + 10 * x.rest.length ≤ 900000 from by
    have := Note.nums_length [1, x.k]
    have e1 : x.rest.length = 11 := rfl
    simp at this
    omega)
  have HV4 := hid hv4
  clear hp4 hb5 hbx4 hv4
  clear hc0 hc1 hc2 hc3 hc4 hc5 hc6 hc7 hc8 hc9 hc10 hc11 hc12
  go_wp2_with fail
  refine (write_any w1.heap.size w1.heap.size g v4 (Note.nums [1, x.k]) x.rest _ hp5.out hg5 HSEP5.out HLN.out HF5.out (by omega) 11 rfl).mono ?_
  rintro e w6 ⟨rfl, hwr6⟩
  obtain ⟨v6, hp6, hk6, hf6⟩ := hwr6.pen
  have hs6 := hk6.size
  have hbx6 := (hk6.block w.heap.size (by omega) (fun h => by rcases h with h | h <;> first | omega | (have := HV4.out _ h; omega))).trans hbx5
  have HB6 := hid (HB5.out.trans (hk6.below (B := w.heap.size) (by omega) (fun i hi => by rcases hi with hi | hi <;> first | omega | (have := HV4.out _ hi; omega))))
  have hv6 : ∀ q, v6.ownBlock = some q → w2.heap.size < q := fun q hq => by
    rcases hf6 q hq with h | h
    · exact HV4.out q h
    · omega
  clear hwr6 hk6 hf6 hbx5 hg5
  have hcT : w6.cell? ⟨w.heap.size, 12, none⟩ = some (.slice ad L cp) := (cell_of_row _ _ _ _ _ _ hbx6).trans rfl
  have HLA := hid (show ((Note.nums [1, x.k] ++ Note.nums x.rest)).length ≤ 800000 from by
    have h1 := Note.nums_length [1, x.k]
    have h2 := Note.nums_length x.rest
    have h3 : x.rest.length = 11 := rfl
    rw [List.length_append]
    simp at h1
    omega)
  have HBL := hid (show x.b.length ≤ 10000 from by have := HRO.out; omega)
  have HRD6 := hid (HRD.out.below HB6.out)
  have HSEP6 := hid (show ∀ q, (Value.slice ad L cp).ownBlock = some q → ¬ penS w1.heap.size v6 q from fun q hq h => by
    have h1 := HOB.out q hq
    rcases h with h | h
    · omega
    · have := hv6 q h; omega)
  have HP6 := hid hp6
  clear hp6
  go_wp2_with fail
  refine (pentext_long w1.heap.size w1.heap.size v6 (Note.nums [1, x.k] ++ Note.nums x.rest) (.slice ad L cp) x.b w6 HP6.out HRD6.out HSEP6.out HLA.out HBL.out (by omega)).mono ?_
  rintro e w7 ⟨rfl, hwr7⟩
  obtain ⟨v7, hp7, hk7, hf7⟩ := hwr7.pen
  have hs7 := hk7.size
  have HB7 := hid (HB6.out.trans (hk7.below (B := w.heap.size) (by omega) (fun i hi => by rcases hi with hi | hi <;> first | omega | (have := hv6 _ hi; omega))))
  clear hwr7 hk7 hf7 hcT
  have HEQ := hid (show (Note.nums [1, x.k] ++ Note.nums x.rest) ++ Ink.text x.b = x.enc from (by unfold Note.N.enc Note.enc Note.tail; rw [← Note.nums_append]; rfl))
  rw [HEQ.out] at hp7
  go_wp2_with fail
  refine (penbytes_any w1.heap.size w1.heap.size v7 x.enc false w7 hp7 (by have := HEL.out; omega)).mono ?_
  rintro e w8 ⟨u8, rfl, ho8, hb8⟩
  go_wp2_with fail
  refine (tie_any u8 x.enc w8 ho8.rd HEL.out).mono ?_
  rintro e w9 ⟨kv, rfl, ho9, hb9⟩
  have h8 := hb8.size
  have hB9 := HB7.out.trans ((hb8.mono (by omega)).trans (hb9.mono (by omega)))
  go_wp2
  go_ret2
  exact ⟨kv, rfl, ho9.base (fun k hk => by have := (ho9.lt k hk).1; omega), hB9⟩

set_option maxRecDepth 100000 in
set_option maxHeartbeats 4000000 in
theorem packet_yes (x : Note.P) (ad : Option Addr) (cp L : Nat) (hL : L = x.b.length) (w : World) (hx : x.wf) (hrd : Rd w (.slice ad L cp) x.b) (hob : ∀ k, (Value.slice ad L cp).ownBlock = some k → k < w.heap.size) (hr : x.right = true) :
    Calls Try.prog 15 #[.agg #[.int .u8 (x.n : Int), .int .u32 (x.e : Int), .int .u32 (x.l : Int), .int .u32 (x.s : Int), .int .u32 (x.a : Int), .bool x.p, .slice ad L cp]] w fun e w' => ∃ kv, e = .returned (.tuple #[kv, .int .i64 0]) ∧ Own w' w.heap.size kv (Knot.knot x.enc) ∧ Below w.heap.size w w' := by
  have HX := hid hx
  have HEL := hid (show x.enc.length ≤ 2048 from x.enc_length hx hr)
  have HWF := hid hx
  obtain ⟨b0, b1, b2, b3, b4⟩ := hx
  have HR := hid hr
  have HRO := hid (Note.P.right_of x hr)
  have HRT := hid (fun w => rightpacket_any x ad cp w)
  rw [← hL] at HRT
  have HL := hid hL
  have HRD := hid hrd
  have HOB := hid hob
  clear hL hrd hob
  clear hr
  obtain ⟨wb, hwb⟩ : ∃ wb, wb = w.alloc (.cells #[.int .u8 (x.n : Int), .int .u32 (x.e : Int), .int .u32 (x.l : Int), .int .u32 (x.s : Int), .int .u32 (x.a : Int), .bool x.p, .slice ad L cp] 38) := ⟨_, rfl⟩
  have hbx0 : wb.heap[w.heap.size]? = some (.cells #[.int .u8 (x.n : Int), .int .u32 (x.e : Int), .int .u32 (x.l : Int), .int .u32 (x.s : Int), .int .u32 (x.a : Int), .bool x.p, .slice ad L cp] 38 (0, 0)) := by rw [hwb]; exact heap_alloc_new w _
  have hB0 : Below w.heap.size w wb := by rw [hwb]; exact (Below.refl _ _).alloc (Nat.le_refl _) _
  have hs0 : w.heap.size < wb.heap.size := by rw [hwb]; simp
  have HWB := hid hwb
  clear hwb
  have hc0 : wb.cell? ⟨w.heap.size, 0, none⟩ = some (.int .u8 (x.n : Int)) := (cell_of_row _ _ _ _ _ _ hbx0).trans rfl
  have hc1 : wb.cell? ⟨w.heap.size, 1, none⟩ = some (.int .u32 (x.e : Int)) := (cell_of_row _ _ _ _ _ _ hbx0).trans rfl
  have hc2 : wb.cell? ⟨w.heap.size, 2, none⟩ = some (.int .u32 (x.l : Int)) := (cell_of_row _ _ _ _ _ _ hbx0).trans rfl
  have hc3 : wb.cell? ⟨w.heap.size, 3, none⟩ = some (.int .u32 (x.s : Int)) := (cell_of_row _ _ _ _ _ _ hbx0).trans rfl
  have hc4 : wb.cell? ⟨w.heap.size, 4, none⟩ = some (.int .u32 (x.a : Int)) := (cell_of_row _ _ _ _ _ _ hbx0).trans rfl
  have hc5 : wb.cell? ⟨w.heap.size, 5, none⟩ = some (.bool x.p) := (cell_of_row _ _ _ _ _ _ hbx0).trans rfl
  have hc6 : wb.cell? ⟨w.heap.size, 6, none⟩ = some (.slice ad L cp) := (cell_of_row _ _ _ _ _ _ hbx0).trans rfl
  go_enter Try.func15, Try.ntmps15
  go_wp2_with fail
  rw [← HWB.out]
  refine (HRT.out _).mono ?_
  rintro e w1 ⟨rfl, hb1⟩
  rw [HR.out]
  have hbx1 := (hb1.block _ hs0).trans hbx0
  have hB1 := hB0.trans (hb1.mono hB0.size)
  have hs1 : w.heap.size < w1.heap.size := by have := hb1.size; omega
  clear hc0 hc1 hc2 hc3 hc4 hc5 hc6
  go_wp2_with fail
  refine (new_any w1).mono ?_
  rintro e w2 ⟨rfl, hp2, hb2, hsz2⟩
  have hbx2 := (hb2.block _ hs1).trans hbx1
  have hB2 := hB1.trans (hb2.mono hB1.size)
  have hs2 : w1.heap.size < w2.heap.size := by omega
  have HSZ2 := hid hsz2
  clear hb1 hB0 hB1 hbx0 hbx1 hs0 hb2 hsz2
  have hc0 : w2.cell? ⟨w.heap.size, 0, none⟩ = some (.int .u8 (x.n : Int)) := (cell_of_row _ _ _ _ _ _ hbx2).trans rfl
  have hc1 : w2.cell? ⟨w.heap.size, 1, none⟩ = some (.int .u32 (x.e : Int)) := (cell_of_row _ _ _ _ _ _ hbx2).trans rfl
  have hc2 : w2.cell? ⟨w.heap.size, 2, none⟩ = some (.int .u32 (x.l : Int)) := (cell_of_row _ _ _ _ _ _ hbx2).trans rfl
  have hc3 : w2.cell? ⟨w.heap.size, 3, none⟩ = some (.int .u32 (x.s : Int)) := (cell_of_row _ _ _ _ _ _ hbx2).trans rfl
  have hc4 : w2.cell? ⟨w.heap.size, 4, none⟩ = some (.int .u32 (x.a : Int)) := (cell_of_row _ _ _ _ _ _ hbx2).trans rfl
  have hc5 : w2.cell? ⟨w.heap.size, 5, none⟩ = some (.bool x.p) := (cell_of_row _ _ _ _ _ _ hbx2).trans rfl
  have hc6 : w2.cell? ⟨w.heap.size, 6, none⟩ = some (.slice ad L cp) := (cell_of_row _ _ _ _ _ _ hbx2).trans rfl
  have hA := (Below.refl w2.heap.size w2).alloc (Nat.le_refl _) (.cells ([4, x.n, x.e, x.l, x.s, x.a].map (fun n : Nat => Value.int .u64 (n : Int))).toArray 71)
  have hp3 := hid (hp2.below hA)
  have HU := hid (heap_alloc_new w2 (.cells ([4, x.n, x.e, x.l, x.s, x.a].map (fun n : Nat => Value.int .u64 (n : Int))).toArray 71))
  have HSEP := hid (show ¬ penS w1.heap.size (.slice none 0 0) w2.heap.size from by
    rintro (h | h)
    · omega
    · cases h)
  have HF := hid (show fits64 [4, x.n, x.e, x.l, x.s, x.a] from by
    intro j hj
    have hj2 : j = 0 ∨ j = 1 ∨ j = 2 ∨ j = 3 ∨ j = 4 ∨ j = 5 := by simp at hj; omega
    rcases hj2 with rfl | rfl | rfl | rfl | rfl | rfl
    all_goals simp
    all_goals first | omega | exact Note.u64_lt _)
  have HB3 := hid (hB2.trans (hA.mono (by omega)))
  have hs3 : w2.heap.size < (w2.alloc (.cells ([4, x.n, x.e, x.l, x.s, x.a].map (fun n : Nat => Value.int .u64 (n : Int))).toArray 71)).heap.size := by simp
  have HBX3 := hid ((hA.block w.heap.size (by omega)).trans hbx2)
  clear hA hp2
  go_wp2_with fail
  refine (write_any w1.heap.size w1.heap.size w2.heap.size (.slice none 0 0) [] [4, x.n, x.e, x.l, x.s, x.a] _ hp3.out HU.out HSEP.out (by simp) HF.out (by simp; omega) 6 rfl).mono ?_
  rintro e w4 ⟨rfl, hwr⟩
  obtain ⟨v4, hp4, hk4, hf4⟩ := hwr.pen
  have hs4 := hk4.size
  have hbx4 := (hk4.block w.heap.size (by omega) (fun h => by rcases h with h | h <;> first | omega | cases h)).trans HBX3.out
  have HB4 := hid (HB3.out.trans (hk4.below (B := w.heap.size) (by omega) (fun i hi => by rcases hi with hi | hi <;> first | omega | cases hi)))
  have hv4 : ∀ q, v4.ownBlock = some q → w2.heap.size < q := fun q hq => by
    rcases hf4 q hq with h | h
    · cases h
    · simp at h; omega
  rw [List.nil_append] at hp4
  clear hc0 hc1 hc2 hc3 hc4 hc5 hc6
  clear hwr hk4 hf4 hbx2 hB2
  have hc0 : w4.cell? ⟨w.heap.size, 0, none⟩ = some (.int .u8 (x.n : Int)) := (cell_of_row _ _ _ _ _ _ hbx4).trans rfl
  have hc1 : w4.cell? ⟨w.heap.size, 1, none⟩ = some (.int .u32 (x.e : Int)) := (cell_of_row _ _ _ _ _ _ hbx4).trans rfl
  have hc2 : w4.cell? ⟨w.heap.size, 2, none⟩ = some (.int .u32 (x.l : Int)) := (cell_of_row _ _ _ _ _ _ hbx4).trans rfl
  have hc3 : w4.cell? ⟨w.heap.size, 3, none⟩ = some (.int .u32 (x.s : Int)) := (cell_of_row _ _ _ _ _ _ hbx4).trans rfl
  have hc4 : w4.cell? ⟨w.heap.size, 4, none⟩ = some (.int .u32 (x.a : Int)) := (cell_of_row _ _ _ _ _ _ hbx4).trans rfl
  have hc5 : w4.cell? ⟨w.heap.size, 5, none⟩ = some (.bool x.p) := (cell_of_row _ _ _ _ _ _ hbx4).trans rfl
  have hc6 : w4.cell? ⟨w.heap.size, 6, none⟩ = some (.slice ad L cp) := (cell_of_row _ _ _ _ _ _ hbx4).trans rfl
  have HLN := hid (show (Note.nums [4, x.n, x.e, x.l, x.s, x.a]).length ≤ 1000 from by
    have := Note.nums_length [4, x.n, x.e, x.l, x.s, x.a]
    simp at this
    omega)
  have HV4 := hid hv4
  clear hv4
  go_wp2_with fail
  refine (penbool_good w1.heap.size w1.heap.size v4 (Note.nums [4, x.n, x.e, x.l, x.s, x.a]) x.p w4 hp4 (by have := HLN.out; omega) (by omega)).mono ?_
  rintro e w6 ⟨rfl, hwr6⟩
  obtain ⟨v6, hp6, hk6, hf6⟩ := hwr6.pen
  have hs6 := hk6.size
  have hbx6 := (hk6.block w.heap.size (by omega) (fun h => by rcases h with h | h <;> first | omega | (have := HV4.out _ h; omega))).trans hbx4
  have HB6 := hid (HB4.out.trans (hk6.below (B := w.heap.size) (by omega) (fun i hi => by rcases hi with hi | hi <;> first | omega | (have := HV4.out _ hi; omega))))
  have hv6 : ∀ q, v6.ownBlock = some q → w2.heap.size < q := fun q hq => by
    rcases hf6 q hq with h | h
    · exact HV4.out q h
    · omega
  clear hwr6 hk6 hf6 hbx4 hp4
  clear hc0 hc1 hc2 hc3 hc4 hc5 hc6
  have hcT : w6.cell? ⟨w.heap.size, 6, none⟩ = some (.slice ad L cp) := (cell_of_row _ _ _ _ _ _ hbx6).trans rfl
  have HLA := hid (show ((Note.nums [4, x.n, x.e, x.l, x.s, x.a] ++ Ink.num (if x.p then 1 else 0))).length ≤ 800000 from by
    have h1 := Note.nums_length [4, x.n, x.e, x.l, x.s, x.a]
    have h2 := (Ink.num_length (if x.p then 1 else 0)).1
    skip
    rw [List.length_append]
    simp at h1
    omega)
  have HBL := hid (show x.b.length ≤ 10000 from by have := HRO.out; omega)
  have HRD6 := hid (HRD.out.below HB6.out)
  have HSEP6 := hid (show ∀ q, (Value.slice ad L cp).ownBlock = some q → ¬ penS w1.heap.size v6 q from fun q hq h => by
    have h1 := HOB.out q hq
    rcases h with h | h
    · omega
    · have := hv6 q h; omega)
  have HP6 := hid hp6
  clear hp6
  go_wp2_with fail
  refine (pentext_long w1.heap.size w1.heap.size v6 (Note.nums [4, x.n, x.e, x.l, x.s, x.a] ++ Ink.num (if x.p then 1 else 0)) (.slice ad L cp) x.b w6 HP6.out HRD6.out HSEP6.out HLA.out HBL.out (by omega)).mono ?_
  rintro e w7 ⟨rfl, hwr7⟩
  obtain ⟨v7, hp7, hk7, hf7⟩ := hwr7.pen
  have hs7 := hk7.size
  have HB7 := hid (HB6.out.trans (hk7.below (B := w.heap.size) (by omega) (fun i hi => by rcases hi with hi | hi <;> first | omega | (have := hv6 _ hi; omega))))
  clear hwr7 hk7 hf7 hcT
  have HEQ := hid (show (Note.nums [4, x.n, x.e, x.l, x.s, x.a] ++ Ink.num (if x.p then 1 else 0)) ++ Ink.text x.b = x.enc from (by unfold Note.P.enc Note.enc Note.tail Note.P.ns; simp [Note.nums]))
  rw [HEQ.out] at hp7
  go_wp2_with fail
  refine (penbytes_any w1.heap.size w1.heap.size v7 x.enc false w7 hp7 (by have := HEL.out; omega)).mono ?_
  rintro e w8 ⟨u8, rfl, ho8, hb8⟩
  go_wp2_with fail
  refine (tie_any u8 x.enc w8 ho8.rd HEL.out).mono ?_
  rintro e w9 ⟨kv, rfl, ho9, hb9⟩
  have h8 := hb8.size
  have hB9 := HB7.out.trans ((hb8.mono (by omega)).trans (hb9.mono (by omega)))
  go_wp2
  go_ret2
  exact ⟨kv, rfl, ho9.base (fun k hk => by have := (ho9.lt k hk).1; omega), hB9⟩

end Go.Proofs.Ytafpgglebjllbaa
