/-
  The document's writer of notes; two notes alike: contracts.
-/
import Derived.Test.YtafpgglebjllbaaNoteNm
import Derived.Test.YtafpgglebjllbaaNoteX
import Derived.Test.YtafpgglebjllbaaNoteR
import Derived.Test.YtafpgglebjllbaaNoteGN
import Derived.Test.YtafpgglebjllbaaRefTie
import Derived.Test.YtafpgglebjllbaaSame
namespace Go.Proofs.Ytafpgglebjllbaa
open Go.RowKit

theorem form_any (x : Note.N) (ad : Option Addr) (cp L : Nat) (hL : L = x.b.length) (w : World) (hx : x.wf) :
    Calls Try.prog 34 #[.agg #[.int .u8 (x.k : Int), .int .u8 (x.n : Int), .int .u32 (x.e : Int), .int .u32 (x.l : Int), .int .u32 (x.t : Int), .int .u32 (x.g : Int), .int .u32 (x.j : Int), .int .u32 (x.v : Int), .int .u8 (x.r : Int), .int .i64 x.c, .int .u32 (x.f : Int), .int .u32 (x.o : Int), .slice ad L cp]] w fun e w' => e = .returned (.bool x.right) ∧ Below w.heap.size w w' := by
  by_cases h : 1 ≤ x.k ∧ x.k ≤ 12 ∧ x.n ≤ 15 ∧ x.r ≤ 15 ∧ 0 ≤ x.c ∧ x.c ≤ 10000 ∧ L ≤ 1024
  · obtain ⟨h1, h2, h3, h4, h5, h6, h7⟩ := h
    exact form_good x ad cp L hL w hx h1 h2 h3 h4 h5 h6 h7
  · exact form_bad x ad cp L hL w h

set_option maxRecDepth 100000 in
set_option maxHeartbeats 4000000 in
theorem refnote_no (x : Note.N) (ad : Option Addr) (cp L : Nat) (hL : L = x.b.length) (w : World) (hx : x.wf) (hr : x.right = false) :
    Calls Try.prog 11 #[.agg #[.int .u8 (x.k : Int), .int .u8 (x.n : Int), .int .u32 (x.e : Int), .int .u32 (x.l : Int), .int .u32 (x.t : Int), .int .u32 (x.g : Int), .int .u32 (x.j : Int), .int .u32 (x.v : Int), .int .u8 (x.r : Int), .int .i64 x.c, .int .u32 (x.f : Int), .int .u32 (x.o : Int), .slice ad L cp]] w fun e w' => e = .returned (.tuple #[.slice none 0 0, .int .i64 4]) ∧ Below w.heap.size w w' := by
  have HFO := hid (fun (w : World) => form_any x ad cp L hL w hx)
  have HBX0 := hid (heap_alloc_new w (.cells #[.int .u8 (x.k : Int), .int .u8 (x.n : Int), .int .u32 (x.e : Int), .int .u32 (x.l : Int), .int .u32 (x.t : Int), .int .u32 (x.g : Int), .int .u32 (x.j : Int), .int .u32 (x.v : Int), .int .u8 (x.r : Int), .int .i64 x.c, .int .u32 (x.f : Int), .int .u32 (x.o : Int), .slice ad L cp] 25))
  rw [hr] at HFO
  clear hL hx hr
  go_enter Try.func11, Try.ntmps11
  go_wp2_with (first | (refine load_st rfl 25 (.tmp 1) rfl w.heap.size rfl #[.int .u8 (x.k : Int), .int .u8 (x.n : Int), .int .u32 (x.e : Int), .int .u32 (x.l : Int), .int .u32 (x.t : Int), .int .u32 (x.g : Int), .int .u32 (x.j : Int), .int .u32 (x.v : Int), .int .u8 (x.r : Int), .int .i64 x.c, .int .u32 (x.f : Int), .int .u32 (x.o : Int), .slice ad L cp] _ 13 HBX0.out Try.underlying25 size_note rfl ?_) | fail)
  refine (HFO.out _).mono ?_
  rintro e w' ⟨rfl, hb⟩
  go_wp2
  go_ret2
  exact ⟨rfl, ((Below.refl _ _).alloc (Nat.le_refl _) _).trans (hb.mono (by simp))⟩

set_option maxRecDepth 100000 in
set_option maxHeartbeats 4000000 in
theorem refnote_yes (x : Note.N) (ad : Option Addr) (cp L : Nat) (hL : L = x.b.length) (w : World) (hx : x.wf) (hrd : Rd w (.slice ad L cp) x.b) (hr : x.right = true) :
    Calls Try.prog 11 #[.agg #[.int .u8 (x.k : Int), .int .u8 (x.n : Int), .int .u32 (x.e : Int), .int .u32 (x.l : Int), .int .u32 (x.t : Int), .int .u32 (x.g : Int), .int .u32 (x.j : Int), .int .u32 (x.v : Int), .int .u8 (x.r : Int), .int .i64 x.c, .int .u32 (x.f : Int), .int .u32 (x.o : Int), .slice ad L cp]] w fun e w' => ∃ kv, e = .returned (.tuple #[kv, .int .i64 0]) ∧ Own w' w.heap.size kv (Knot.knot x.enc) ∧ Below w.heap.size w w' := by
  have HFO := hid (fun (w : World) => form_any x ad cp L hL w hx)
  have HEL := hid (show x.enc.length ≤ 2048 from x.enc_length hr)
  have HRO := hid (Note.N.right_of x hr)
  rw [hr] at HFO
  obtain ⟨b0, b1, b2, b3, b4, b5, b6, b7, b8, b9, b10, b11, b12⟩ := hx
  have hc0 : 0 ≤ x.c := HRO.out.2.2.2.2.1.1
  have hc1 : x.c ≤ 10000 := HRO.out.2.2.2.2.1.2
  have HL := hid hL
  have HRD := hid hrd
  clear hr hL hrd
  have HBX0 := hid (heap_alloc_new w (.cells #[.int .u8 (x.k : Int), .int .u8 (x.n : Int), .int .u32 (x.e : Int), .int .u32 (x.l : Int), .int .u32 (x.t : Int), .int .u32 (x.g : Int), .int .u32 (x.j : Int), .int .u32 (x.v : Int), .int .u8 (x.r : Int), .int .i64 x.c, .int .u32 (x.f : Int), .int .u32 (x.o : Int), .slice ad L cp] 25))
  have HB0 := hid ((Below.refl w.heap.size w).alloc (Nat.le_refl _) (.cells #[.int .u8 (x.k : Int), .int .u8 (x.n : Int), .int .u32 (x.e : Int), .int .u32 (x.l : Int), .int .u32 (x.t : Int), .int .u32 (x.g : Int), .int .u32 (x.j : Int), .int .u32 (x.v : Int), .int .u8 (x.r : Int), .int .i64 x.c, .int .u32 (x.f : Int), .int .u32 (x.o : Int), .slice ad L cp] 25))
  have HEU := hid (show ((Note.u64 x.c : Nat) : Int) = x.c from Note.u64_small _ hc0 (by omega))
  have HF := hid (show fits64 [x.k, x.n, x.e, x.l, x.t, x.g, x.j, x.v, x.r, Note.u64 x.c, x.f, x.o] from by
    intro j hj
    have hj2 : j = 0 ∨ j = 1 ∨ j = 2 ∨ j = 3 ∨ j = 4 ∨ j = 5 ∨ j = 6 ∨ j = 7 ∨ j = 8 ∨ j = 9 ∨ j = 10 ∨ j = 11 := by simp at hj; omega
    have := Note.u64_lt x.c
    rcases hj2 with rfl | rfl | rfl | rfl | rfl | rfl | rfl | rfl | rfl | rfl | rfl | rfl
    all_goals simp
    all_goals omega)
  go_enter Try.func11, Try.ntmps11
  go_wp2_with (first | (refine load_st rfl 25 (.tmp 1) rfl w.heap.size rfl #[.int .u8 (x.k : Int), .int .u8 (x.n : Int), .int .u32 (x.e : Int), .int .u32 (x.l : Int), .int .u32 (x.t : Int), .int .u32 (x.g : Int), .int .u32 (x.j : Int), .int .u32 (x.v : Int), .int .u8 (x.r : Int), .int .i64 x.c, .int .u32 (x.f : Int), .int .u32 (x.o : Int), .slice ad L cp] _ 13 HBX0.out Try.underlying25 size_note rfl ?_) | fail)
  refine (HFO.out _).mono ?_
  rintro e w1 ⟨rfl, hb⟩
  have hbx1 := (hb.block w.heap.size (by simp)).trans HBX0.out
  have hB1 := HB0.out.trans (hb.mono (by simp))
  have hsz1 := hb.size
  simp at hsz1
  have HU := hid (show (w1.alloc (.cells #[.int .u64 (x.k : Int), .int .u64 (x.n : Int), .int .u64 (x.e : Int), .int .u64 (x.l : Int), .int .u64 (x.t : Int), .int .u64 (x.g : Int), .int .u64 (x.j : Int), .int .u64 (x.v : Int), .int .u64 (x.r : Int), .int .u64 x.c, .int .u64 (x.f : Int), .int .u64 (x.o : Int)] 71)).heap[w1.heap.size]? = some (.cells ([x.k, x.n, x.e, x.l, x.t, x.g, x.j, x.v, x.r, Note.u64 x.c, x.f, x.o].map (fun n : Nat => Value.int .u64 (n : Int))).toArray 71 (0, 0)) from by
    rw [show ([x.k, x.n, x.e, x.l, x.t, x.g, x.j, x.v, x.r, Note.u64 x.c, x.f, x.o].map (fun n : Nat => Value.int .u64 (n : Int))).toArray = #[.int .u64 (x.k : Int), .int .u64 (x.n : Int), .int .u64 (x.e : Int), .int .u64 (x.l : Int), .int .u64 (x.t : Int), .int .u64 (x.g : Int), .int .u64 (x.j : Int), .int .u64 (x.v : Int), .int .u64 (x.r : Int), .int .u64 (Note.u64 x.c : Int), .int .u64 (x.f : Int), .int .u64 (x.o : Int)] from rfl, HEU.out]
    exact heap_alloc_new w1 (.cells #[.int .u64 (x.k : Int), .int .u64 (x.n : Int), .int .u64 (x.e : Int), .int .u64 (x.l : Int), .int .u64 (x.t : Int), .int .u64 (x.g : Int), .int .u64 (x.j : Int), .int .u64 (x.v : Int), .int .u64 (x.r : Int), .int .u64 x.c, .int .u64 (x.f : Int), .int .u64 (x.o : Int)] 71))
  have HBA := hid (hB1.alloc (by omega) (.cells #[.int .u64 (x.k : Int), .int .u64 (x.n : Int), .int .u64 (x.e : Int), .int .u64 (x.l : Int), .int .u64 (x.t : Int), .int .u64 (x.g : Int), .int .u64 (x.j : Int), .int .u64 (x.v : Int), .int .u64 (x.r : Int), .int .u64 x.c, .int .u64 (x.f : Int), .int .u64 (x.o : Int)] 71))
  have HBX := hid ((Below.heap_alloc w1 (.cells #[.int .u64 (x.k : Int), .int .u64 (x.n : Int), .int .u64 (x.e : Int), .int .u64 (x.l : Int), .int .u64 (x.t : Int), .int .u64 (x.g : Int), .int .u64 (x.j : Int), .int .u64 (x.v : Int), .int .u64 (x.r : Int), .int .u64 x.c, .int .u64 (x.f : Int), .int .u64 (x.o : Int)] 71) w.heap.size (by omega)).trans hbx1)
  have hc_0 : w1.cell? ⟨w.heap.size, 0, none⟩ = some (.int .u8 (x.k : Int)) := (cell_of_row _ _ _ _ _ _ hbx1).trans rfl
  have hc_1 : w1.cell? ⟨w.heap.size, 1, none⟩ = some (.int .u8 (x.n : Int)) := (cell_of_row _ _ _ _ _ _ hbx1).trans rfl
  have hc_2 : w1.cell? ⟨w.heap.size, 2, none⟩ = some (.int .u32 (x.e : Int)) := (cell_of_row _ _ _ _ _ _ hbx1).trans rfl
  have hc_3 : w1.cell? ⟨w.heap.size, 3, none⟩ = some (.int .u32 (x.l : Int)) := (cell_of_row _ _ _ _ _ _ hbx1).trans rfl
  have hc_4 : w1.cell? ⟨w.heap.size, 4, none⟩ = some (.int .u32 (x.t : Int)) := (cell_of_row _ _ _ _ _ _ hbx1).trans rfl
  have hc_5 : w1.cell? ⟨w.heap.size, 5, none⟩ = some (.int .u32 (x.g : Int)) := (cell_of_row _ _ _ _ _ _ hbx1).trans rfl
  have hc_6 : w1.cell? ⟨w.heap.size, 6, none⟩ = some (.int .u32 (x.j : Int)) := (cell_of_row _ _ _ _ _ _ hbx1).trans rfl
  have hc_7 : w1.cell? ⟨w.heap.size, 7, none⟩ = some (.int .u32 (x.v : Int)) := (cell_of_row _ _ _ _ _ _ hbx1).trans rfl
  have hc_8 : w1.cell? ⟨w.heap.size, 8, none⟩ = some (.int .u8 (x.r : Int)) := (cell_of_row _ _ _ _ _ _ hbx1).trans rfl
  have hc_9 : w1.cell? ⟨w.heap.size, 9, none⟩ = some (.int .i64 x.c) := (cell_of_row _ _ _ _ _ _ hbx1).trans rfl
  have hc_10 : w1.cell? ⟨w.heap.size, 10, none⟩ = some (.int .u32 (x.f : Int)) := (cell_of_row _ _ _ _ _ _ hbx1).trans rfl
  have hc_11 : w1.cell? ⟨w.heap.size, 11, none⟩ = some (.int .u32 (x.o : Int)) := (cell_of_row _ _ _ _ _ _ hbx1).trans rfl
  clear hb hbx1 hB1
  go_wp2_with fail
  refine (refnums_any w1.heap.size 1 [x.k, x.n, x.e, x.l, x.t, x.g, x.j, x.v, x.r, Note.u64 x.c, x.f, x.o] _ HU.out (by omega) (by simp) HF.out 12 rfl 1 rfl).mono ?_
  rintro e w2 ⟨u2, rfl, ho2, hb2⟩
  clear hc_0 hc_1 hc_2 hc_3 hc_4 hc_5 hc_6 hc_7 hc_8 hc_9 hc_10 hc_11
  have hs2 := hb2.size
  simp at hs2
  have hbx2 := (hb2.block w.heap.size (by simp <;> omega)).trans HBX.out
  have HB2 := hid (HBA.out.trans (hb2.mono (by simp; omega)))
  have hc12 : w2.cell? ⟨w.heap.size, 12, none⟩ = some (.slice ad L cp) := (cell_of_row _ _ _ _ _ _ hbx2).trans rfl
  have HNL := hid (show (Note.nums (1 :: [x.k, x.n, x.e, x.l, x.t, x.g, x.j, x.v, x.r, Note.u64 x.c, x.f, x.o])).length ≤ 1000 from by have := Note.nums_length (1 :: [x.k, x.n, x.e, x.l, x.t, x.g, x.j, x.v, x.r, Note.u64 x.c, x.f, x.o]); simp at this; omega)
  have HO2 := hid (ho2.base (b' := w.heap.size) (fun k hk => by have := (ho2.lt k hk).1; simp at this; omega))
  obtain ⟨ua, uc, eu, _⟩ := ho2.rd
  subst eu
  clear ho2 hb2 hbx2
  go_wp2_with fail
  refine (reftext_any (.slice ad L cp) x.b w2 (HRD.out.below HB2.out) (by have := HRO.out.2.2.2.2.2; omega)).mono ?_
  rintro e w3 ⟨t3, rfl, ho3, hb3⟩
  have hs3 := hb3.size
  have HO23 := hid (HO2.out.below hb3)
  have HB3 := hid (HB2.out.trans (hb3.mono (by omega)))
  have HT3 := hid ho3.rd
  have HEQ := hid (show Note.nums (1 :: [x.k, x.n, x.e, x.l, x.t, x.g, x.j, x.v, x.r, Note.u64 x.c, x.f, x.o]) ++ Ink.text x.b = x.enc from rfl)
  have HTL := hid (show (Ink.text x.b).length ≤ 10000 from by unfold Ink.text; rw [List.length_append]; have := (Ink.num_length x.b.length).1; have := HRO.out.2.2.2.2.2; omega)
  obtain ⟨ta, tc, et, _⟩ := ho3.rd
  subst et
  clear ho3 hb3 hc12
  go_wp2_with (at_builtin; go_must (refine appk rfl (.tmp 46) (.tmp 49) rfl w.heap.size _ _ (Note.nums (1 :: [x.k, x.n, x.e, x.l, x.t, x.g, x.j, x.v, x.r, Note.u64 x.c, x.f, x.o])) (Ink.text x.b) x.enc _ rfl rfl HO23.out HT3.out rfl HEQ.out (by have := HNL.out; have := HTL.out; omega) (by omega) ?_); intro ad4 cp4 w4 ho4 hg4)
  have HB4 := hid (HO23.out.grown HB3.out hg4 (Nat.le_refl _) (by omega))
  have hs4 := HB4.out.size
  clear hg4
  refine (reftie_any _ x.enc w4 ho4.rd HEL.out).mono ?_
  rintro e w5 ⟨kv, rfl, ho5, hb5⟩
  have hB5 := HB4.out.trans (hb5.mono (by omega))
  go_wp2
  go_ret2
  exact ⟨kv, rfl, ho5.base (fun k hk => by have := (ho5.lt k hk).1; omega), hB5⟩

set_option maxRecDepth 100000 in
set_option maxHeartbeats 4000000 in
theorem samenote_eq (x : Note.N) (ad ad2 : Option Addr) (cp cp2 L : Nat) (w : World) (h1 : Rd w (.slice ad L cp) x.b) (h2 : Rd w (.slice ad2 L cp2) x.b) :
    Calls Try.prog 13 #[.agg #[.int .u8 (x.k : Int), .int .u8 (x.n : Int), .int .u32 (x.e : Int), .int .u32 (x.l : Int), .int .u32 (x.t : Int), .int .u32 (x.g : Int), .int .u32 (x.j : Int), .int .u32 (x.v : Int), .int .u8 (x.r : Int), .int .i64 x.c, .int .u32 (x.f : Int), .int .u32 (x.o : Int), .slice ad L cp], .agg #[.int .u8 (x.k : Int), .int .u8 (x.n : Int), .int .u32 (x.e : Int), .int .u32 (x.l : Int), .int .u32 (x.t : Int), .int .u32 (x.g : Int), .int .u32 (x.j : Int), .int .u32 (x.v : Int), .int .u8 (x.r : Int), .int .i64 x.c, .int .u32 (x.f : Int), .int .u32 (x.o : Int), .slice ad2 L cp2]] w fun e w' => e = .returned (.bool true) ∧ Below w.heap.size w w' := by
  have H1 := hid (fun (o1 o2 : Obj) => (h1.alloc o1).alloc o2)
  have H2 := hid (fun (o1 o2 : Obj) => (h2.alloc o1).alloc o2)
  clear h1 h2
  go_enter Try.func13, Try.ntmps13
  go_wp2_with fail
  refine (same_eq _ _ x.b _ (H1.out _ _) (H2.out _ _)).mono ?_
  rintro e w' ⟨rfl, rfl⟩
  go_wp2
  go_ret
  exact ⟨rfl, ((Below.refl w.heap.size w).alloc (Nat.le_refl _) _).alloc (by simp) _⟩

end Go.Proofs.Ytafpgglebjllbaa
