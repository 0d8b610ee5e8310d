/-
  NoteApart: two notes with the same bytes are one note, and two packets with the same bytes one packet. No condition.
  (The frame behind the walk is the guide's shell, at these parameters.)
-/
import Derived.Test.YtafpgglebjllbaaRows
import Derived.WalkKit
import Derived.Test.YtafpgglebjllbaaNotePk
import Derived.Test.YtafpgglebjllbaaNoteYNP
import Derived.Test.YtafpgglebjllbaaNoteGN
import Derived.Test.YtafpgglebjllbaaAwake4
import Derived.Test.YtafpgglebjllbaaNoteZ
import Derived.Test.YtafpgglebjllbaaNoteO
import Derived.Test.YtafpgglebjllbaaNoteNs
import Derived.Test.YtafpgglebjllbaaNoteOb
import Derived.Test.YtafpgglebjllbaaUntil
import Derived.ProofKit
import Derived.Deep.CutRange
import Derived.Deep.RegionHeld3
import Derived.Deep.Cut
import Derived.OpenShut
import Derived.ShutString
import Derived.ChangeOld
import Derived.Below
namespace Go.Proofs.Ytafpgglebjllbaa.noteApart
open Go.ChangeShapes Go.WideShapes Go.ChangeAt Go.RowKit
open Go.ChangeMaps (open_string shut_string)
set_option linter.unusedVariables false

theorem own : ownKnob Try.prog.godebug = none := by kernel_rfl
theorem laidOut : laidOutB Try.prog = true := by kernel_rfl

theorem heap_new4_3 (w : World) (o0 o1 o2 o3 : Obj) : ((((w.alloc o0).alloc o1).alloc o2).alloc o3).heap[w.heap.size + 1 + 1 + 1]? = some o3 := by
  have := heap_alloc_new (((w.alloc o0).alloc o1).alloc o2) o3
  rwa [show (((w.alloc o0).alloc o1).alloc o2).heap.size = w.heap.size + 1 + 1 + 1 by simp] at this
theorem heap_new4_2 (w : World) (o0 o1 o2 o3 : Obj) : ((((w.alloc o0).alloc o1).alloc o2).alloc o3).heap[w.heap.size + 1 + 1]? = some o2 := by
  have := heap_alloc_new ((w.alloc o0).alloc o1) o2
  rw [show ((w.alloc o0).alloc o1).heap.size = w.heap.size + 1 + 1 by simp] at this
  exact (Below.heap_alloc _ _ _ (by simp)).trans this
theorem heap_new4_1 (w : World) (o0 o1 o2 o3 : Obj) : ((((w.alloc o0).alloc o1).alloc o2).alloc o3).heap[w.heap.size + 1]? = some o1 := by
  have := heap_alloc_new (w.alloc o0) o1
  rw [show (w.alloc o0).heap.size = w.heap.size + 1 by simp] at this
  exact (Below.heap_alloc _ _ _ (by simp <;> omega)).trans ((Below.heap_alloc _ _ _ (by simp)).trans this)
theorem heap_new4_0 (w : World) (o0 o1 o2 o3 : Obj) : ((((w.alloc o0).alloc o1).alloc o2).alloc o3).heap[w.heap.size]? = some o0 :=
  (Below.heap_alloc _ _ _ (by simp <;> omega)).trans ((Below.heap_alloc _ _ _ (by simp <;> omega)).trans ((Below.heap_alloc _ _ _ (by simp)).trans (heap_alloc_new w o0)))

theorem below_dr {B : Nat} {w w' : World} (h : Below B w w') : Below B w w'.drew := ⟨h.os, h.tape, h.output, h.size, h.block⟩

theorem note_st (x : Note.N) (ad : Option Addr) (cp L : Nat) (hL : L = x.b.length) (w : World) (hx : x.wf) (hrd : Rd w (.slice ad L cp) x.b) (hob : ∀ k, (Value.slice ad L cp).ownBlock = some k → k < w.heap.size) :
    Calls Try.prog 10 #[.agg #[.int .u8 (x.k : Int), .int .u8 (x.n : Int), .int .u32 (x.e : Int), .int .u32 (x.l : Int), .int .u32 (x.t : Int), .int .u32 (x.g : Int), .int .u32 (x.j : Int), .int .u32 (x.v : Int), .int .u8 (x.r : Int), .int .i64 x.c, .int .u32 (x.f : Int), .int .u32 (x.o : Int), .slice ad L cp]] w fun e w' => ∃ kv ec, e = .returned (.tuple #[kv, .int .i64 ec]) ∧ Below w.heap.size w w' ∧ ((x.right = true ∧ ec = 0 ∧ Rd w' kv (Knot.knot x.enc)) ∨ (x.right = false ∧ ec = 4)) := by
  by_cases h : x.right = true
  · exact (note_yes x ad cp L hL w hx hrd hob h).mono fun e w' ⟨kv, he, ho, hb⟩ => ⟨kv, 0, he, hb, .inl ⟨h, rfl, ho.rd⟩⟩
  · exact (note_no x ad cp L hL hx w (by simpa using h)).mono fun e w' ⟨he, hb⟩ => ⟨_, 4, he, hb, .inr ⟨by simpa using h, rfl⟩⟩

theorem knots_sameN (x y : Note.N) (hx : x.ok) (hy : y.ok) : (Knot.knot x.enc == Knot.knot y.enc) = x.same y := by
  rw [Bool.eq_iff_iff, beq_iff_eq, Note.N.same_iff]
  constructor
  · intro h
    have e : x.enc = y.enc := by rw [← Knot.utext_knot x.enc (x.enc_length hx.2), h, Knot.utext_knot y.enc (y.enc_length hy.2)]
    exact Note.N.inj x y hx hy e
  · rintro rfl; rfl

theorem packet_st (x : Note.P) (ad : Option Addr) (cp L : Nat) (hL : L = x.b.length) (w : World) (hx : x.wf) (hrd : Rd w (.slice ad L cp) x.b) (hob : ∀ k, (Value.slice ad L cp).ownBlock = some k → k < w.heap.size) :
    Calls Try.prog 15 #[.agg #[.int .u8 (x.n : Int), .int .u32 (x.e : Int), .int .u32 (x.l : Int), .int .u32 (x.s : Int), .int .u32 (x.a : Int), .bool x.p, .slice ad L cp]] w fun e w' => ∃ kv ec, e = .returned (.tuple #[kv, .int .i64 ec]) ∧ Below w.heap.size w w' ∧ ((x.right = true ∧ ec = 0 ∧ Rd w' kv (Knot.knot x.enc)) ∨ (x.right = false ∧ ec = 4)) := by
  by_cases h : x.right = true
  · exact (packet_yes x ad cp L hL w hx hrd hob h).mono fun e w' ⟨kv, he, ho, hb⟩ => ⟨kv, 0, he, hb, .inl ⟨h, rfl, ho.rd⟩⟩
  · exact (packet_no x ad cp L hL w (by simpa using h)).mono fun e w' ⟨he, hb⟩ => ⟨_, 4, he, hb, .inr ⟨by simpa using h, rfl⟩⟩

theorem knots_sameP (x y : Note.P) (hx : x.ok) (hy : y.ok) : (Knot.knot x.enc == Knot.knot y.enc) = x.same y := by
  rw [Bool.eq_iff_iff, beq_iff_eq, Note.P.same_iff]
  constructor
  · intro h
    have e : x.enc = y.enc := by rw [← Knot.utext_knot x.enc (x.enc_length hx.1 hx.2), h, Knot.utext_knot y.enc (y.enc_length hy.1 hy.2)]
    exact Note.P.inj x y hx hy e
  · rintro rfl; rfl

set_option maxRecDepth 100000 in
set_option maxHeartbeats 8000000 in
theorem na_all (x1 x2 : Note.N) (y1 y2 : Note.P) (A1 A2 A3 A4 : Option Addr) (C1 C2 C3 C4 L1 L2 L3 L4 K1 K2 K3 K4 : Nat) (w : World)
    (hC1 : C1 ≤ 9223372036854775807) (hLC1 : L1 ≤ C1) (hKL1 : K1 ≤ C1) (hK1 : K1 ≤ 100) (HM1 : Hid ((100 : Int) < (L1 : Int) ∧ (K1 : Int) = 100 ∨ ¬ (100 : Int) < (L1 : Int) ∧ (K1 : Int) = (L1 : Int))) (hC2 : C2 ≤ 9223372036854775807) (hLC2 : L2 ≤ C2) (hKL2 : K2 ≤ C2) (hK2 : K2 ≤ 100) (HM2 : Hid ((100 : Int) < (L2 : Int) ∧ (K2 : Int) = 100 ∨ ¬ (100 : Int) < (L2 : Int) ∧ (K2 : Int) = (L2 : Int))) (hC3 : C3 ≤ 9223372036854775807) (hLC3 : L3 ≤ C3) (hKL3 : K3 ≤ C3) (hK3 : K3 ≤ 100) (HM3 : Hid ((100 : Int) < (L3 : Int) ∧ (K3 : Int) = 100 ∨ ¬ (100 : Int) < (L3 : Int) ∧ (K3 : Int) = (L3 : Int))) (hC4 : C4 ≤ 9223372036854775807) (hLC4 : L4 ≤ C4) (hKL4 : K4 ≤ C4) (hK4 : K4 ≤ 100) (HM4 : Hid ((100 : Int) < (L4 : Int) ∧ (K4 : Int) = 100 ∨ ¬ (100 : Int) < (L4 : Int) ∧ (K4 : Int) = (L4 : Int)))
    (ho1 : ∀ k, (Value.slice A1 K1 C1).ownBlock = some k → k < w.heap.size) (ho2 : ∀ k, (Value.slice A2 K2 C2).ownBlock = some k → k < w.heap.size) (ho3 : ∀ k, (Value.slice A3 K3 C3).ownBlock = some k → k < w.heap.size) (ho4 : ∀ k, (Value.slice A4 K4 C4).ownBlock = some k → k < w.heap.size) (h1 : x1.wf) (h2 : x2.wf) (h3 : y1.wf) (h4 : y2.wf) (hr1 : Rd w (.slice A1 K1 C1) x1.b) (hl1 : K1 = x1.b.length) (hr2 : Rd w (.slice A2 K2 C2) x2.b) (hl2 : K2 = x2.b.length) (hr3 : Rd w (.slice A3 K3 C3) y1.b) (hl3 : K3 = y1.b.length) (hr4 : Rd w (.slice A4 K4 C4) y2.b) (hl4 : K4 = y2.b.length) :
    Calls Try.prog 8 #[.agg #[.int .u8 (x1.k : Int), .int .u8 (x1.n : Int), .int .u32 (x1.e : Int), .int .u32 (x1.l : Int), .int .u32 (x1.t : Int), .int .u32 (x1.g : Int), .int .u32 (x1.j : Int), .int .u32 (x1.v : Int), .int .u8 (x1.r : Int), .int .i64 x1.c, .int .u32 (x1.f : Int), .int .u32 (x1.o : Int), .slice A1 L1 C1], .agg #[.int .u8 (x2.k : Int), .int .u8 (x2.n : Int), .int .u32 (x2.e : Int), .int .u32 (x2.l : Int), .int .u32 (x2.t : Int), .int .u32 (x2.g : Int), .int .u32 (x2.j : Int), .int .u32 (x2.v : Int), .int .u8 (x2.r : Int), .int .i64 x2.c, .int .u32 (x2.f : Int), .int .u32 (x2.o : Int), .slice A2 L2 C2], .agg #[.int .u8 (y1.n : Int), .int .u32 (y1.e : Int), .int .u32 (y1.l : Int), .int .u32 (y1.s : Int), .int .u32 (y1.a : Int), .bool y1.p, .slice A3 L3 C3], .agg #[.int .u8 (y2.n : Int), .int .u32 (y2.e : Int), .int .u32 (y2.l : Int), .int .u32 (y2.s : Int), .int .u32 (y2.a : Int), .bool y2.p, .slice A4 L4 C4]] w fun e w' => e = .returned (.bool true) ∧ Below w.heap.size w w' := by
  have HOB1 := hid ho1
  have HOB2 := hid ho2
  have HOB3 := hid ho3
  have HOB4 := hid ho4
  clear ho1 ho2 ho3 ho4
  have HX1 := hid h1
  have HRR1 := hid hr1
  have HL1 := hid hl1
  have HX2 := hid h2
  have HRR2 := hid hr2
  have HL2 := hid hl2
  have HX3 := hid h3
  have HRR3 := hid hr3
  have HL3 := hid hl3
  have HX4 := hid h4
  have HRR4 := hid hr4
  have HL4 := hid hl4
  clear h1 hr1 hl1 h2 hr2 hl2 h3 hr3 hl3 h4 hr4 hl4
  go_enter Try.func8, Try.ntmps8
  go_wp2_with fail
  refine (awake4_any _).mono ?_
  rintro e wa ⟨rfl, hba⟩
  have hsa := hba.size
  simp at hsa
  have H0a := hid ((hba.block w.heap.size (by simp <;> omega)).trans (heap_new4_0 w (.cells #[.int .u8 (x1.k : Int), .int .u8 (x1.n : Int), .int .u32 (x1.e : Int), .int .u32 (x1.l : Int), .int .u32 (x1.t : Int), .int .u32 (x1.g : Int), .int .u32 (x1.j : Int), .int .u32 (x1.v : Int), .int .u8 (x1.r : Int), .int .i64 x1.c, .int .u32 (x1.f : Int), .int .u32 (x1.o : Int), .slice A1 L1 C1] 25) (.cells #[.int .u8 (x2.k : Int), .int .u8 (x2.n : Int), .int .u32 (x2.e : Int), .int .u32 (x2.l : Int), .int .u32 (x2.t : Int), .int .u32 (x2.g : Int), .int .u32 (x2.j : Int), .int .u32 (x2.v : Int), .int .u8 (x2.r : Int), .int .i64 x2.c, .int .u32 (x2.f : Int), .int .u32 (x2.o : Int), .slice A2 L2 C2] 25) (.cells #[.int .u8 (y1.n : Int), .int .u32 (y1.e : Int), .int .u32 (y1.l : Int), .int .u32 (y1.s : Int), .int .u32 (y1.a : Int), .bool y1.p, .slice A3 L3 C3] 38) (.cells #[.int .u8 (y2.n : Int), .int .u32 (y2.e : Int), .int .u32 (y2.l : Int), .int .u32 (y2.s : Int), .int .u32 (y2.a : Int), .bool y2.p, .slice A4 L4 C4] 38)))
  have H1a := hid ((hba.block (w.heap.size + 1) (by simp <;> omega)).trans (heap_new4_1 w (.cells #[.int .u8 (x1.k : Int), .int .u8 (x1.n : Int), .int .u32 (x1.e : Int), .int .u32 (x1.l : Int), .int .u32 (x1.t : Int), .int .u32 (x1.g : Int), .int .u32 (x1.j : Int), .int .u32 (x1.v : Int), .int .u8 (x1.r : Int), .int .i64 x1.c, .int .u32 (x1.f : Int), .int .u32 (x1.o : Int), .slice A1 L1 C1] 25) (.cells #[.int .u8 (x2.k : Int), .int .u8 (x2.n : Int), .int .u32 (x2.e : Int), .int .u32 (x2.l : Int), .int .u32 (x2.t : Int), .int .u32 (x2.g : Int), .int .u32 (x2.j : Int), .int .u32 (x2.v : Int), .int .u8 (x2.r : Int), .int .i64 x2.c, .int .u32 (x2.f : Int), .int .u32 (x2.o : Int), .slice A2 L2 C2] 25) (.cells #[.int .u8 (y1.n : Int), .int .u32 (y1.e : Int), .int .u32 (y1.l : Int), .int .u32 (y1.s : Int), .int .u32 (y1.a : Int), .bool y1.p, .slice A3 L3 C3] 38) (.cells #[.int .u8 (y2.n : Int), .int .u32 (y2.e : Int), .int .u32 (y2.l : Int), .int .u32 (y2.s : Int), .int .u32 (y2.a : Int), .bool y2.p, .slice A4 L4 C4] 38)))
  have H2a := hid ((hba.block (w.heap.size + 1 + 1) (by simp <;> omega)).trans (heap_new4_2 w (.cells #[.int .u8 (x1.k : Int), .int .u8 (x1.n : Int), .int .u32 (x1.e : Int), .int .u32 (x1.l : Int), .int .u32 (x1.t : Int), .int .u32 (x1.g : Int), .int .u32 (x1.j : Int), .int .u32 (x1.v : Int), .int .u8 (x1.r : Int), .int .i64 x1.c, .int .u32 (x1.f : Int), .int .u32 (x1.o : Int), .slice A1 L1 C1] 25) (.cells #[.int .u8 (x2.k : Int), .int .u8 (x2.n : Int), .int .u32 (x2.e : Int), .int .u32 (x2.l : Int), .int .u32 (x2.t : Int), .int .u32 (x2.g : Int), .int .u32 (x2.j : Int), .int .u32 (x2.v : Int), .int .u8 (x2.r : Int), .int .i64 x2.c, .int .u32 (x2.f : Int), .int .u32 (x2.o : Int), .slice A2 L2 C2] 25) (.cells #[.int .u8 (y1.n : Int), .int .u32 (y1.e : Int), .int .u32 (y1.l : Int), .int .u32 (y1.s : Int), .int .u32 (y1.a : Int), .bool y1.p, .slice A3 L3 C3] 38) (.cells #[.int .u8 (y2.n : Int), .int .u32 (y2.e : Int), .int .u32 (y2.l : Int), .int .u32 (y2.s : Int), .int .u32 (y2.a : Int), .bool y2.p, .slice A4 L4 C4] 38)))
  have H3a := hid ((hba.block (w.heap.size + 1 + 1 + 1) (by simp)).trans (heap_new4_3 w (.cells #[.int .u8 (x1.k : Int), .int .u8 (x1.n : Int), .int .u32 (x1.e : Int), .int .u32 (x1.l : Int), .int .u32 (x1.t : Int), .int .u32 (x1.g : Int), .int .u32 (x1.j : Int), .int .u32 (x1.v : Int), .int .u8 (x1.r : Int), .int .i64 x1.c, .int .u32 (x1.f : Int), .int .u32 (x1.o : Int), .slice A1 L1 C1] 25) (.cells #[.int .u8 (x2.k : Int), .int .u8 (x2.n : Int), .int .u32 (x2.e : Int), .int .u32 (x2.l : Int), .int .u32 (x2.t : Int), .int .u32 (x2.g : Int), .int .u32 (x2.j : Int), .int .u32 (x2.v : Int), .int .u8 (x2.r : Int), .int .i64 x2.c, .int .u32 (x2.f : Int), .int .u32 (x2.o : Int), .slice A2 L2 C2] 25) (.cells #[.int .u8 (y1.n : Int), .int .u32 (y1.e : Int), .int .u32 (y1.l : Int), .int .u32 (y1.s : Int), .int .u32 (y1.a : Int), .bool y1.p, .slice A3 L3 C3] 38) (.cells #[.int .u8 (y2.n : Int), .int .u32 (y2.e : Int), .int .u32 (y2.l : Int), .int .u32 (y2.s : Int), .int .u32 (y2.a : Int), .bool y2.p, .slice A4 L4 C4] 38)))
  have HBa := hid (((((((Below.refl w.heap.size w).alloc (Nat.le_refl _) _).alloc (by simp) _).alloc (by simp <;> omega) _).alloc (by simp <;> omega) _)).trans (hba.mono (by simp <;> omega)))
  clear hba
  have hc0 : wa.cell? ⟨w.heap.size, 12, none⟩ = some (.slice A1 L1 C1) := (cell_of_row _ _ _ _ _ _ H0a.out).trans rfl
  have hf0 : wa.frozen? ⟨w.heap.size, 12, none⟩ = false := frozen_of_row _ _ _ _ _ H0a.out
  have hc1 : wa.cell? ⟨w.heap.size + 1, 12, none⟩ = some (.slice A2 L2 C2) := (cell_of_row _ _ _ _ _ _ H1a.out).trans rfl
  have hf1 : wa.frozen? ⟨w.heap.size + 1, 12, none⟩ = false := frozen_of_row _ _ _ _ _ H1a.out
  have hc2 : wa.cell? ⟨w.heap.size + 1 + 1, 6, none⟩ = some (.slice A3 L3 C3) := (cell_of_row _ _ _ _ _ _ H2a.out).trans rfl
  have hf2 : wa.frozen? ⟨w.heap.size + 1 + 1, 6, none⟩ = false := frozen_of_row _ _ _ _ _ H2a.out
  have hc3 : wa.cell? ⟨w.heap.size + 1 + 1 + 1, 6, none⟩ = some (.slice A4 L4 C4) := (cell_of_row _ _ _ _ _ _ H3a.out).trans rfl
  have hf3 : wa.frozen? ⟨w.heap.size + 1 + 1 + 1, 6, none⟩ = false := frozen_of_row _ _ _ _ _ H3a.out
  go_upto_region 3 with (fail)
  go_cut [8] from 19 to 50 (fun r wx => r = .bool false ∧ wx = ((((wa.setCell ⟨w.heap.size, 12, none⟩ (.slice A1 K1 C1)).setCell ⟨w.heap.size + 1, 12, none⟩ (.slice A2 K2 C2)).setCell ⟨w.heap.size + 1 + 1, 6, none⟩ (.slice A3 K3 C3)).setCell ⟨w.heap.size + 1 + 1 + 1, 6, none⟩ (.slice A4 K4 C4)).drew)
  case first =>
    refine wp_region_noPanic ?_
    have HU0 : UntilAll [(29, (fun w' => w'.cell? ⟨w.heap.size, 12, none⟩ = some (.slice A1 L1 C1))), (31, (fun w' => w'.cell? ⟨w.heap.size + 1, 12, none⟩ = some (.slice A2 L2 C2))), (33, (fun w' => w'.cell? ⟨w.heap.size + 1 + 1, 6, none⟩ = some (.slice A3 L3 C3))), (35, (fun w' => w'.cell? ⟨w.heap.size + 1 + 1 + 1, 6, none⟩ = some (.slice A4 L4 C4)))] (Array.replicate 36 false) wa.drew := by
      intro c hc _
      simp only [List.mem_cons, List.not_mem_nil, or_false] at hc
      rcases hc with rfl | rfl | rfl | rfl
      · exact hc0
      · exact hc1
      · exact hc2
      · exact hc3
    refine Orders.begins (C := [(29, (fun w' => w'.cell? ⟨w.heap.size, 12, none⟩ = some (.slice A1 L1 C1))), (31, (fun w' => w'.cell? ⟨w.heap.size + 1, 12, none⟩ = some (.slice A2 L2 C2))), (33, (fun w' => w'.cell? ⟨w.heap.size + 1 + 1, 6, none⟩ = some (.slice A3 L3 C3))), (35, (fun w' => w'.cell? ⟨w.heap.size + 1 + 1 + 1, 6, none⟩ = some (.slice A4 L4 C4)))]) (by kernel_rfl) ?_
    refine Orders.take (fun _ => True) [] (i := 0) (oi := { dst := some 19, op := Op.fieldAddr 25 (Operand.tmp 4) 12, type := 0, pos := "law.go:146", after := #[], guard := none }) (v := ?_) rfl (by kernel_rfl) (by kernel_rfl) (by kernel_rfl) (fun _ _ _ h => h) (by kernel_rfl) (fun _ _ _ _ => trivial) (by kernel_rfl) (by kernel_rfl) (Or.inl ⟨by rfl, ?_⟩) (by assumption) (fun HU => ?_)
    rotate_left
    · intro w hSw
      try dsimp only at hSw
      go_simp
      try (with_reducible rfl)
    try simp only [Act.put, List.setIfInBounds_toArray, List.set_cons_zero, List.set_cons_succ]
    refine Orders.take (fun w' => w'.cell? ⟨w.heap.size, 12, none⟩ = some (.slice A1 L1 C1)) [29] (i := 1) (oi := { dst := some 20, op := Op.load 23 (Operand.tmp 19), type := 23, pos := "law.go:146", after := #[{ on := 0, ground := Ground.data }], guard := none }) (v := ?_) rfl (by kernel_rfl) (by kernel_rfl) (by kernel_rfl) (fun _ _ _ h => h) (by kernel_rfl) (fun L u hd h => h (29, (fun w' => w'.cell? ⟨w.heap.size, 12, none⟩ = some (.slice A1 L1 C1))) (by simp) (hd 29 (by simp))) (by kernel_rfl) (by kernel_rfl) (Or.inl ⟨by rfl, ?_⟩) (by assumption) (fun HU => ?_)
    rotate_left
    · intro w hSw
      try dsimp only at hSw
      go_simp
      try (with_reducible rfl)
    try simp only [Act.put, List.setIfInBounds_toArray, List.set_cons_zero, List.set_cons_succ]
    refine Orders.take (fun _ => True) [] (i := 2) (oi := { dst := some 21, op := Op.fieldAddr 25 (Operand.tmp 4) 12, type := 0, pos := "law.go:146", after := #[], guard := none }) (v := ?_) rfl (by kernel_rfl) (by kernel_rfl) (by kernel_rfl) (fun _ _ _ h => h) (by kernel_rfl) (fun _ _ _ _ => trivial) (by kernel_rfl) (by kernel_rfl) (Or.inl ⟨by rfl, ?_⟩) (by assumption) (fun HU => ?_)
    rotate_left
    · intro w hSw
      try dsimp only at hSw
      go_simp
      try (with_reducible rfl)
    try simp only [Act.put, List.setIfInBounds_toArray, List.set_cons_zero, List.set_cons_succ]
    refine Orders.take (fun w' => w'.cell? ⟨w.heap.size, 12, none⟩ = some (.slice A1 L1 C1)) [29] (i := 3) (oi := { dst := some 22, op := Op.load 23 (Operand.tmp 21), type := 23, pos := "law.go:146", after := #[{ on := 2, ground := Ground.data }], guard := none }) (v := ?_) rfl (by kernel_rfl) (by kernel_rfl) (by kernel_rfl) (fun _ _ _ h => h) (by kernel_rfl) (fun L u hd h => h (29, (fun w' => w'.cell? ⟨w.heap.size, 12, none⟩ = some (.slice A1 L1 C1))) (by simp) (hd 29 (by simp))) (by kernel_rfl) (by kernel_rfl) (Or.inl ⟨by rfl, ?_⟩) (by assumption) (fun HU => ?_)
    rotate_left
    · intro w hSw
      try dsimp only at hSw
      go_simp
      try (with_reducible rfl)
    try simp only [Act.put, List.setIfInBounds_toArray, List.set_cons_zero, List.set_cons_succ]
    refine Orders.take (fun _ => True) [] (i := 4) (oi := { dst := some 23, op := Op.call { callee := Callee.builtin Builtin.len, args := #[Operand.tmp 22], argTypes := #[23] }, type := 3, pos := "law.go:146", after := #[{ on := 3, ground := Ground.data }], guard := none }) (v := ?_) rfl (by kernel_rfl) (by kernel_rfl) (by kernel_rfl) (fun _ _ _ h => h) (by kernel_rfl) (fun _ _ _ _ => trivial) (by kernel_rfl) (by kernel_rfl) (Or.inl ⟨by rfl, ?_⟩) (by assumption) (fun HU => ?_)
    rotate_left
    · intro w hSw
      try dsimp only at hSw
      go_simp
      try (with_reducible rfl)
    try simp only [Act.put, List.setIfInBounds_toArray, List.set_cons_zero, List.set_cons_succ]
    refine Orders.take (fun _ => True) [] (i := 5) (oi := { dst := some 24, op := Op.call { callee := Callee.builtin Builtin.min, args := #[Operand.tmp 23, Operand.const (Value.int IntKind.i64 100)], argTypes := #[3, 3] }, type := 3, pos := "law.go:146", after := #[{ on := 4, ground := Ground.data }], guard := none }) (v := .int .i64 (K1 : Int)) rfl (by kernel_rfl) (by kernel_rfl) (by kernel_rfl) (fun _ _ _ h => h) (by kernel_rfl) (fun _ _ _ _ => trivial) (by kernel_rfl) (by kernel_rfl) (Or.inl ⟨by rfl, ?_⟩) (by assumption) (fun HU => ?_)
    · intro w _
      rcases HM1.out with ⟨h, e⟩ | ⟨h, e⟩
      · rw [e]; go_simp
      · rw [e]; go_simp
        all_goals (intro h2; omega)
    try simp only [Act.put, List.setIfInBounds_toArray, List.set_cons_zero, List.set_cons_succ]
    refine Orders.take (fun _ => True) [] (i := 6) (oi := { dst := some 25, op := Op.slice 23 (Operand.tmp 20) none (some (Operand.tmp 24)) none, type := 23, pos := "law.go:146", after := #[{ on := 1, ground := Ground.data }, { on := 5, ground := Ground.data }], guard := none }) (v := ?_) rfl (by kernel_rfl) (by kernel_rfl) (by kernel_rfl) (fun _ _ _ h => h) (by kernel_rfl) (fun _ _ _ _ => trivial) (by kernel_rfl) (by kernel_rfl) (Or.inl ⟨by rfl, ?_⟩) (by assumption) (fun HU => ?_)
    rotate_left
    · intro w hSw
      try dsimp only at hSw
      go_simp
      try (with_reducible rfl)
    try simp only [Act.put, List.setIfInBounds_toArray, List.set_cons_zero, List.set_cons_succ]
    refine Orders.take (fun _ => True) [] (i := 7) (oi := { dst := some 26, op := Op.fieldAddr 25 (Operand.tmp 5) 12, type := 0, pos := "law.go:146", after := #[], guard := none }) (v := ?_) rfl (by kernel_rfl) (by kernel_rfl) (by kernel_rfl) (fun _ _ _ h => h) (by kernel_rfl) (fun _ _ _ _ => trivial) (by kernel_rfl) (by kernel_rfl) (Or.inl ⟨by rfl, ?_⟩) (by assumption) (fun HU => ?_)
    rotate_left
    · intro w hSw
      try dsimp only at hSw
      go_simp
      try (with_reducible rfl)
    try simp only [Act.put, List.setIfInBounds_toArray, List.set_cons_zero, List.set_cons_succ]
    refine Orders.take (fun w' => w'.cell? ⟨w.heap.size + 1, 12, none⟩ = some (.slice A2 L2 C2)) [31] (i := 8) (oi := { dst := some 27, op := Op.load 23 (Operand.tmp 26), type := 23, pos := "law.go:146", after := #[{ on := 7, ground := Ground.data }], guard := none }) (v := ?_) rfl (by kernel_rfl) (by kernel_rfl) (by kernel_rfl) (fun _ _ _ h => h) (by kernel_rfl) (fun L u hd h => h (31, (fun w' => w'.cell? ⟨w.heap.size + 1, 12, none⟩ = some (.slice A2 L2 C2))) (by simp) (hd 31 (by simp))) (by kernel_rfl) (by kernel_rfl) (Or.inl ⟨by rfl, ?_⟩) (by assumption) (fun HU => ?_)
    rotate_left
    · intro w hSw
      try dsimp only at hSw
      go_simp
      try (with_reducible rfl)
    try simp only [Act.put, List.setIfInBounds_toArray, List.set_cons_zero, List.set_cons_succ]
    refine Orders.take (fun _ => True) [] (i := 9) (oi := { dst := some 28, op := Op.fieldAddr 25 (Operand.tmp 5) 12, type := 0, pos := "law.go:146", after := #[], guard := none }) (v := ?_) rfl (by kernel_rfl) (by kernel_rfl) (by kernel_rfl) (fun _ _ _ h => h) (by kernel_rfl) (fun _ _ _ _ => trivial) (by kernel_rfl) (by kernel_rfl) (Or.inl ⟨by rfl, ?_⟩) (by assumption) (fun HU => ?_)
    rotate_left
    · intro w hSw
      try dsimp only at hSw
      go_simp
      try (with_reducible rfl)
    try simp only [Act.put, List.setIfInBounds_toArray, List.set_cons_zero, List.set_cons_succ]
    refine Orders.take (fun w' => w'.cell? ⟨w.heap.size + 1, 12, none⟩ = some (.slice A2 L2 C2)) [31] (i := 10) (oi := { dst := some 29, op := Op.load 23 (Operand.tmp 28), type := 23, pos := "law.go:146", after := #[{ on := 9, ground := Ground.data }], guard := none }) (v := ?_) rfl (by kernel_rfl) (by kernel_rfl) (by kernel_rfl) (fun _ _ _ h => h) (by kernel_rfl) (fun L u hd h => h (31, (fun w' => w'.cell? ⟨w.heap.size + 1, 12, none⟩ = some (.slice A2 L2 C2))) (by simp) (hd 31 (by simp))) (by kernel_rfl) (by kernel_rfl) (Or.inl ⟨by rfl, ?_⟩) (by assumption) (fun HU => ?_)
    rotate_left
    · intro w hSw
      try dsimp only at hSw
      go_simp
      try (with_reducible rfl)
    try simp only [Act.put, List.setIfInBounds_toArray, List.set_cons_zero, List.set_cons_succ]
    refine Orders.take (fun _ => True) [] (i := 11) (oi := { dst := some 30, op := Op.call { callee := Callee.builtin Builtin.len, args := #[Operand.tmp 29], argTypes := #[23] }, type := 3, pos := "law.go:146", after := #[{ on := 10, ground := Ground.data }], guard := none }) (v := ?_) rfl (by kernel_rfl) (by kernel_rfl) (by kernel_rfl) (fun _ _ _ h => h) (by kernel_rfl) (fun _ _ _ _ => trivial) (by kernel_rfl) (by kernel_rfl) (Or.inl ⟨by rfl, ?_⟩) (by assumption) (fun HU => ?_)
    rotate_left
    · intro w hSw
      try dsimp only at hSw
      go_simp
      try (with_reducible rfl)
    try simp only [Act.put, List.setIfInBounds_toArray, List.set_cons_zero, List.set_cons_succ]
    refine Orders.take (fun _ => True) [] (i := 12) (oi := { dst := some 31, op := Op.call { callee := Callee.builtin Builtin.min, args := #[Operand.tmp 30, Operand.const (Value.int IntKind.i64 100)], argTypes := #[3, 3] }, type := 3, pos := "law.go:146", after := #[{ on := 11, ground := Ground.data }], guard := none }) (v := .int .i64 (K2 : Int)) rfl (by kernel_rfl) (by kernel_rfl) (by kernel_rfl) (fun _ _ _ h => h) (by kernel_rfl) (fun _ _ _ _ => trivial) (by kernel_rfl) (by kernel_rfl) (Or.inl ⟨by rfl, ?_⟩) (by assumption) (fun HU => ?_)
    · intro w _
      rcases HM2.out with ⟨h, e⟩ | ⟨h, e⟩
      · rw [e]; go_simp
      · rw [e]; go_simp
        all_goals (intro h2; omega)
    try simp only [Act.put, List.setIfInBounds_toArray, List.set_cons_zero, List.set_cons_succ]
    refine Orders.take (fun _ => True) [] (i := 13) (oi := { dst := some 32, op := Op.slice 23 (Operand.tmp 27) none (some (Operand.tmp 31)) none, type := 23, pos := "law.go:146", after := #[{ on := 8, ground := Ground.data }, { on := 12, ground := Ground.data }], guard := none }) (v := ?_) rfl (by kernel_rfl) (by kernel_rfl) (by kernel_rfl) (fun _ _ _ h => h) (by kernel_rfl) (fun _ _ _ _ => trivial) (by kernel_rfl) (by kernel_rfl) (Or.inl ⟨by rfl, ?_⟩) (by assumption) (fun HU => ?_)
    rotate_left
    · intro w hSw
      try dsimp only at hSw
      go_simp
      try (with_reducible rfl)
    try simp only [Act.put, List.setIfInBounds_toArray, List.set_cons_zero, List.set_cons_succ]
    refine Orders.take (fun _ => True) [] (i := 14) (oi := { dst := some 33, op := Op.fieldAddr 38 (Operand.tmp 6) 6, type := 0, pos := "law.go:146", after := #[], guard := none }) (v := ?_) rfl (by kernel_rfl) (by kernel_rfl) (by kernel_rfl) (fun _ _ _ h => h) (by kernel_rfl) (fun _ _ _ _ => trivial) (by kernel_rfl) (by kernel_rfl) (Or.inl ⟨by rfl, ?_⟩) (by assumption) (fun HU => ?_)
    rotate_left
    · intro w hSw
      try dsimp only at hSw
      go_simp
      try (with_reducible rfl)
    try simp only [Act.put, List.setIfInBounds_toArray, List.set_cons_zero, List.set_cons_succ]
    refine Orders.take (fun w' => w'.cell? ⟨w.heap.size + 1 + 1, 6, none⟩ = some (.slice A3 L3 C3)) [33] (i := 15) (oi := { dst := some 34, op := Op.load 23 (Operand.tmp 33), type := 23, pos := "law.go:146", after := #[{ on := 14, ground := Ground.data }], guard := none }) (v := ?_) rfl (by kernel_rfl) (by kernel_rfl) (by kernel_rfl) (fun _ _ _ h => h) (by kernel_rfl) (fun L u hd h => h (33, (fun w' => w'.cell? ⟨w.heap.size + 1 + 1, 6, none⟩ = some (.slice A3 L3 C3))) (by simp) (hd 33 (by simp))) (by kernel_rfl) (by kernel_rfl) (Or.inl ⟨by rfl, ?_⟩) (by assumption) (fun HU => ?_)
    rotate_left
    · intro w hSw
      try dsimp only at hSw
      go_simp
      try (with_reducible rfl)
    try simp only [Act.put, List.setIfInBounds_toArray, List.set_cons_zero, List.set_cons_succ]
    refine Orders.take (fun _ => True) [] (i := 16) (oi := { dst := some 35, op := Op.fieldAddr 38 (Operand.tmp 6) 6, type := 0, pos := "law.go:146", after := #[], guard := none }) (v := ?_) rfl (by kernel_rfl) (by kernel_rfl) (by kernel_rfl) (fun _ _ _ h => h) (by kernel_rfl) (fun _ _ _ _ => trivial) (by kernel_rfl) (by kernel_rfl) (Or.inl ⟨by rfl, ?_⟩) (by assumption) (fun HU => ?_)
    rotate_left
    · intro w hSw
      try dsimp only at hSw
      go_simp
      try (with_reducible rfl)
    try simp only [Act.put, List.setIfInBounds_toArray, List.set_cons_zero, List.set_cons_succ]
    refine Orders.take (fun w' => w'.cell? ⟨w.heap.size + 1 + 1, 6, none⟩ = some (.slice A3 L3 C3)) [33] (i := 17) (oi := { dst := some 36, op := Op.load 23 (Operand.tmp 35), type := 23, pos := "law.go:146", after := #[{ on := 16, ground := Ground.data }], guard := none }) (v := ?_) rfl (by kernel_rfl) (by kernel_rfl) (by kernel_rfl) (fun _ _ _ h => h) (by kernel_rfl) (fun L u hd h => h (33, (fun w' => w'.cell? ⟨w.heap.size + 1 + 1, 6, none⟩ = some (.slice A3 L3 C3))) (by simp) (hd 33 (by simp))) (by kernel_rfl) (by kernel_rfl) (Or.inl ⟨by rfl, ?_⟩) (by assumption) (fun HU => ?_)
    rotate_left
    · intro w hSw
      try dsimp only at hSw
      go_simp
      try (with_reducible rfl)
    try simp only [Act.put, List.setIfInBounds_toArray, List.set_cons_zero, List.set_cons_succ]
    refine Orders.take (fun _ => True) [] (i := 18) (oi := { dst := some 37, op := Op.call { callee := Callee.builtin Builtin.len, args := #[Operand.tmp 36], argTypes := #[23] }, type := 3, pos := "law.go:146", after := #[{ on := 17, ground := Ground.data }], guard := none }) (v := ?_) rfl (by kernel_rfl) (by kernel_rfl) (by kernel_rfl) (fun _ _ _ h => h) (by kernel_rfl) (fun _ _ _ _ => trivial) (by kernel_rfl) (by kernel_rfl) (Or.inl ⟨by rfl, ?_⟩) (by assumption) (fun HU => ?_)
    rotate_left
    · intro w hSw
      try dsimp only at hSw
      go_simp
      try (with_reducible rfl)
    try simp only [Act.put, List.setIfInBounds_toArray, List.set_cons_zero, List.set_cons_succ]
    refine Orders.take (fun _ => True) [] (i := 19) (oi := { dst := some 38, op := Op.call { callee := Callee.builtin Builtin.min, args := #[Operand.tmp 37, Operand.const (Value.int IntKind.i64 100)], argTypes := #[3, 3] }, type := 3, pos := "law.go:146", after := #[{ on := 18, ground := Ground.data }], guard := none }) (v := .int .i64 (K3 : Int)) rfl (by kernel_rfl) (by kernel_rfl) (by kernel_rfl) (fun _ _ _ h => h) (by kernel_rfl) (fun _ _ _ _ => trivial) (by kernel_rfl) (by kernel_rfl) (Or.inl ⟨by rfl, ?_⟩) (by assumption) (fun HU => ?_)
    · intro w _
      rcases HM3.out with ⟨h, e⟩ | ⟨h, e⟩
      · rw [e]; go_simp
      · rw [e]; go_simp
        all_goals (intro h2; omega)
    try simp only [Act.put, List.setIfInBounds_toArray, List.set_cons_zero, List.set_cons_succ]
    refine Orders.take (fun _ => True) [] (i := 20) (oi := { dst := some 39, op := Op.slice 23 (Operand.tmp 34) none (some (Operand.tmp 38)) none, type := 23, pos := "law.go:146", after := #[{ on := 15, ground := Ground.data }, { on := 19, ground := Ground.data }], guard := none }) (v := ?_) rfl (by kernel_rfl) (by kernel_rfl) (by kernel_rfl) (fun _ _ _ h => h) (by kernel_rfl) (fun _ _ _ _ => trivial) (by kernel_rfl) (by kernel_rfl) (Or.inl ⟨by rfl, ?_⟩) (by assumption) (fun HU => ?_)
    rotate_left
    · intro w hSw
      try dsimp only at hSw
      go_simp
      try (with_reducible rfl)
    try simp only [Act.put, List.setIfInBounds_toArray, List.set_cons_zero, List.set_cons_succ]
    refine Orders.take (fun _ => True) [] (i := 21) (oi := { dst := some 40, op := Op.fieldAddr 38 (Operand.tmp 7) 6, type := 0, pos := "law.go:146", after := #[], guard := none }) (v := ?_) rfl (by kernel_rfl) (by kernel_rfl) (by kernel_rfl) (fun _ _ _ h => h) (by kernel_rfl) (fun _ _ _ _ => trivial) (by kernel_rfl) (by kernel_rfl) (Or.inl ⟨by rfl, ?_⟩) (by assumption) (fun HU => ?_)
    rotate_left
    · intro w hSw
      try dsimp only at hSw
      go_simp
      try (with_reducible rfl)
    try simp only [Act.put, List.setIfInBounds_toArray, List.set_cons_zero, List.set_cons_succ]
    refine Orders.take (fun w' => w'.cell? ⟨w.heap.size + 1 + 1 + 1, 6, none⟩ = some (.slice A4 L4 C4)) [35] (i := 22) (oi := { dst := some 41, op := Op.load 23 (Operand.tmp 40), type := 23, pos := "law.go:146", after := #[{ on := 21, ground := Ground.data }], guard := none }) (v := ?_) rfl (by kernel_rfl) (by kernel_rfl) (by kernel_rfl) (fun _ _ _ h => h) (by kernel_rfl) (fun L u hd h => h (35, (fun w' => w'.cell? ⟨w.heap.size + 1 + 1 + 1, 6, none⟩ = some (.slice A4 L4 C4))) (by simp) (hd 35 (by simp))) (by kernel_rfl) (by kernel_rfl) (Or.inl ⟨by rfl, ?_⟩) (by assumption) (fun HU => ?_)
    rotate_left
    · intro w hSw
      try dsimp only at hSw
      go_simp
      try (with_reducible rfl)
    try simp only [Act.put, List.setIfInBounds_toArray, List.set_cons_zero, List.set_cons_succ]
    refine Orders.take (fun _ => True) [] (i := 23) (oi := { dst := some 42, op := Op.fieldAddr 38 (Operand.tmp 7) 6, type := 0, pos := "law.go:146", after := #[], guard := none }) (v := ?_) rfl (by kernel_rfl) (by kernel_rfl) (by kernel_rfl) (fun _ _ _ h => h) (by kernel_rfl) (fun _ _ _ _ => trivial) (by kernel_rfl) (by kernel_rfl) (Or.inl ⟨by rfl, ?_⟩) (by assumption) (fun HU => ?_)
    rotate_left
    · intro w hSw
      try dsimp only at hSw
      go_simp
      try (with_reducible rfl)
    try simp only [Act.put, List.setIfInBounds_toArray, List.set_cons_zero, List.set_cons_succ]
    refine Orders.take (fun w' => w'.cell? ⟨w.heap.size + 1 + 1 + 1, 6, none⟩ = some (.slice A4 L4 C4)) [35] (i := 24) (oi := { dst := some 43, op := Op.load 23 (Operand.tmp 42), type := 23, pos := "law.go:146", after := #[{ on := 23, ground := Ground.data }], guard := none }) (v := ?_) rfl (by kernel_rfl) (by kernel_rfl) (by kernel_rfl) (fun _ _ _ h => h) (by kernel_rfl) (fun L u hd h => h (35, (fun w' => w'.cell? ⟨w.heap.size + 1 + 1 + 1, 6, none⟩ = some (.slice A4 L4 C4))) (by simp) (hd 35 (by simp))) (by kernel_rfl) (by kernel_rfl) (Or.inl ⟨by rfl, ?_⟩) (by assumption) (fun HU => ?_)
    rotate_left
    · intro w hSw
      try dsimp only at hSw
      go_simp
      try (with_reducible rfl)
    try simp only [Act.put, List.setIfInBounds_toArray, List.set_cons_zero, List.set_cons_succ]
    refine Orders.take (fun _ => True) [] (i := 25) (oi := { dst := some 44, op := Op.call { callee := Callee.builtin Builtin.len, args := #[Operand.tmp 43], argTypes := #[23] }, type := 3, pos := "law.go:146", after := #[{ on := 24, ground := Ground.data }], guard := none }) (v := ?_) rfl (by kernel_rfl) (by kernel_rfl) (by kernel_rfl) (fun _ _ _ h => h) (by kernel_rfl) (fun _ _ _ _ => trivial) (by kernel_rfl) (by kernel_rfl) (Or.inl ⟨by rfl, ?_⟩) (by assumption) (fun HU => ?_)
    rotate_left
    · intro w hSw
      try dsimp only at hSw
      go_simp
      try (with_reducible rfl)
    try simp only [Act.put, List.setIfInBounds_toArray, List.set_cons_zero, List.set_cons_succ]
    refine Orders.take (fun _ => True) [] (i := 26) (oi := { dst := some 45, op := Op.call { callee := Callee.builtin Builtin.min, args := #[Operand.tmp 44, Operand.const (Value.int IntKind.i64 100)], argTypes := #[3, 3] }, type := 3, pos := "law.go:146", after := #[{ on := 25, ground := Ground.data }], guard := none }) (v := .int .i64 (K4 : Int)) rfl (by kernel_rfl) (by kernel_rfl) (by kernel_rfl) (fun _ _ _ h => h) (by kernel_rfl) (fun _ _ _ _ => trivial) (by kernel_rfl) (by kernel_rfl) (Or.inl ⟨by rfl, ?_⟩) (by assumption) (fun HU => ?_)
    · intro w _
      rcases HM4.out with ⟨h, e⟩ | ⟨h, e⟩
      · rw [e]; go_simp
      · rw [e]; go_simp
        all_goals (intro h2; omega)
    try simp only [Act.put, List.setIfInBounds_toArray, List.set_cons_zero, List.set_cons_succ]
    refine Orders.take (fun _ => True) [] (i := 27) (oi := { dst := some 46, op := Op.slice 23 (Operand.tmp 41) none (some (Operand.tmp 45)) none, type := 23, pos := "law.go:146", after := #[{ on := 22, ground := Ground.data }, { on := 26, ground := Ground.data }], guard := none }) (v := ?_) rfl (by kernel_rfl) (by kernel_rfl) (by kernel_rfl) (fun _ _ _ h => h) (by kernel_rfl) (fun _ _ _ _ => trivial) (by kernel_rfl) (by kernel_rfl) (Or.inl ⟨by rfl, ?_⟩) (by assumption) (fun HU => ?_)
    rotate_left
    · intro w hSw
      try dsimp only at hSw
      go_simp
      try (with_reducible rfl)
    try simp only [Act.put, List.setIfInBounds_toArray, List.set_cons_zero, List.set_cons_succ]
    refine Orders.take (fun _ => True) [] (i := 28) (oi := { dst := some 47, op := Op.fieldAddr 25 (Operand.tmp 4) 12, type := 0, pos := "law.go:146", after := #[{ on := 0, ground := Ground.phase }, { on := 1, ground := Ground.phase }, { on := 2, ground := Ground.phase }, { on := 3, ground := Ground.phase }, { on := 4, ground := Ground.phase }, { on := 5, ground := Ground.phase }, { on := 6, ground := Ground.phase }, { on := 7, ground := Ground.textOnly Departure.lateStores }, { on := 8, ground := Ground.textOnly Departure.lateStores }, { on := 9, ground := Ground.textOnly Departure.lateStores }, { on := 10, ground := Ground.textOnly Departure.lateStores }, { on := 11, ground := Ground.textOnly Departure.lateStoresUnsure }, { on := 12, ground := Ground.textOnly Departure.lateStoresUnsure }, { on := 13, ground := Ground.textOnly Departure.lateStoresUnsure }, { on := 14, ground := Ground.textOnly Departure.lateStores }, { on := 15, ground := Ground.textOnly Departure.lateStores }, { on := 16, ground := Ground.textOnly Departure.lateStores }, { on := 17, ground := Ground.textOnly Departure.lateStores }, { on := 18, ground := Ground.textOnly Departure.lateStoresUnsure }, { on := 19, ground := Ground.textOnly Departure.lateStoresUnsure }, { on := 20, ground := Ground.textOnly Departure.lateStoresUnsure }, { on := 21, ground := Ground.textOnly Departure.lateStores }, { on := 22, ground := Ground.textOnly Departure.lateStores }, { on := 23, ground := Ground.textOnly Departure.lateStores }, { on := 24, ground := Ground.textOnly Departure.lateStores }, { on := 25, ground := Ground.textOnly Departure.lateStoresUnsure }, { on := 26, ground := Ground.textOnly Departure.lateStoresUnsure }, { on := 27, ground := Ground.textOnly Departure.lateStoresUnsure }], guard := none }) (v := ?_) rfl (by kernel_rfl) (by kernel_rfl) (by kernel_rfl) (fun _ _ _ h => h) (by kernel_rfl) (fun _ _ _ _ => trivial) (by kernel_rfl) (by kernel_rfl) (Or.inl ⟨by rfl, ?_⟩) (by assumption) (fun HU => ?_)
    rotate_left
    · intro w hSw
      try dsimp only at hSw
      go_simp
      try (with_reducible rfl)
    try simp only [Act.put, List.setIfInBounds_toArray, List.set_cons_zero, List.set_cons_succ]
    refine Orders.one (i := 29) (o := { dst := none, op := Op.store 23 (Operand.tmp 47) (Operand.tmp 25), type := 0, pos := "law.go:146", after := #[{ on := 28, ground := Ground.data }, { on := 6, ground := Ground.data }, { on := 0, ground := Ground.phase }, { on := 1, ground := Ground.phase }, { on := 2, ground := Ground.phase }, { on := 3, ground := Ground.phase }, { on := 4, ground := Ground.phase }, { on := 5, ground := Ground.phase }, { on := 6, ground := Ground.phase }, { on := 7, ground := Ground.textOnly Departure.lateStores }, { on := 8, ground := Ground.textOnly Departure.lateStores }, { on := 9, ground := Ground.textOnly Departure.lateStores }, { on := 10, ground := Ground.textOnly Departure.lateStores }, { on := 11, ground := Ground.textOnly Departure.lateStoresUnsure }, { on := 12, ground := Ground.textOnly Departure.lateStoresUnsure }, { on := 13, ground := Ground.textOnly Departure.lateStoresUnsure }, { on := 14, ground := Ground.textOnly Departure.lateStores }, { on := 15, ground := Ground.textOnly Departure.lateStores }, { on := 16, ground := Ground.textOnly Departure.lateStores }, { on := 17, ground := Ground.textOnly Departure.lateStores }, { on := 18, ground := Ground.textOnly Departure.lateStoresUnsure }, { on := 19, ground := Ground.textOnly Departure.lateStoresUnsure }, { on := 20, ground := Ground.textOnly Departure.lateStoresUnsure }, { on := 21, ground := Ground.textOnly Departure.lateStores }, { on := 22, ground := Ground.textOnly Departure.lateStores }, { on := 23, ground := Ground.textOnly Departure.lateStores }, { on := 24, ground := Ground.textOnly Departure.lateStores }, { on := 25, ground := Ground.textOnly Departure.lateStoresUnsure }, { on := 26, ground := Ground.textOnly Departure.lateStoresUnsure }, { on := 27, ground := Ground.textOnly Departure.lateStoresUnsure }], guard := none }) (by kernel_rfl) rfl (fun K hK => ?_)
    go_simp
    refine hK.out _ _ ?_ (fun HU => ?_)
    · intro c hc hl
      simp only [List.mem_cons, List.not_mem_nil, or_false] at hc
      rcases hc with rfl | rfl | rfl | rfl
      · exact absurd hl (fun h => Bool.noConfusion (h.symm.trans (by kernel_rfl : _ = true)))
      · exact (World.cell?_setCell_far _ _ _ _ (by simp <;> omega)).trans (hc1)
      · exact (World.cell?_setCell_far _ _ _ _ (by simp <;> omega)).trans (hc2)
      · exact (World.cell?_setCell_far _ _ _ _ (by simp <;> omega)).trans (hc3)
    clear hK K
    try simp only [Act.put, List.setIfInBounds_toArray, List.set_cons_zero, List.set_cons_succ]
    refine Orders.take (fun _ => True) [] (i := 30) (oi := { dst := some 48, op := Op.fieldAddr 25 (Operand.tmp 5) 12, type := 0, pos := "law.go:146", after := #[{ on := 0, ground := Ground.phase }, { on := 1, ground := Ground.phase }, { on := 2, ground := Ground.phase }, { on := 3, ground := Ground.phase }, { on := 4, ground := Ground.phase }, { on := 5, ground := Ground.phase }, { on := 6, ground := Ground.phase }, { on := 7, ground := Ground.phase }, { on := 8, ground := Ground.phase }, { on := 9, ground := Ground.phase }, { on := 10, ground := Ground.phase }, { on := 11, ground := Ground.phase }, { on := 12, ground := Ground.phase }, { on := 13, ground := Ground.phase }, { on := 14, ground := Ground.textOnly Departure.lateStores }, { on := 15, ground := Ground.textOnly Departure.lateStores }, { on := 16, ground := Ground.textOnly Departure.lateStores }, { on := 17, ground := Ground.textOnly Departure.lateStores }, { on := 18, ground := Ground.textOnly Departure.lateStoresUnsure }, { on := 19, ground := Ground.textOnly Departure.lateStoresUnsure }, { on := 20, ground := Ground.textOnly Departure.lateStoresUnsure }, { on := 21, ground := Ground.textOnly Departure.lateStores }, { on := 22, ground := Ground.textOnly Departure.lateStores }, { on := 23, ground := Ground.textOnly Departure.lateStores }, { on := 24, ground := Ground.textOnly Departure.lateStores }, { on := 25, ground := Ground.textOnly Departure.lateStoresUnsure }, { on := 26, ground := Ground.textOnly Departure.lateStoresUnsure }, { on := 27, ground := Ground.textOnly Departure.lateStoresUnsure }, { on := 28, ground := Ground.phase }, { on := 29, ground := Ground.phase }], guard := none }) (v := ?_) rfl (by kernel_rfl) (by kernel_rfl) (by kernel_rfl) (fun _ _ _ h => h) (by kernel_rfl) (fun _ _ _ _ => trivial) (by kernel_rfl) (by kernel_rfl) (Or.inl ⟨by rfl, ?_⟩) (by assumption) (fun HU => ?_)
    rotate_left
    · intro w hSw
      try dsimp only at hSw
      go_simp
      try (with_reducible rfl)
    try simp only [Act.put, List.setIfInBounds_toArray, List.set_cons_zero, List.set_cons_succ]
    refine Orders.one (i := 31) (o := { dst := none, op := Op.store 23 (Operand.tmp 48) (Operand.tmp 32), type := 0, pos := "law.go:146", after := #[{ on := 30, ground := Ground.data }, { on := 13, ground := Ground.data }, { on := 29, ground := Ground.chain }, { on := 0, ground := Ground.phase }, { on := 1, ground := Ground.phase }, { on := 2, ground := Ground.phase }, { on := 3, ground := Ground.phase }, { on := 4, ground := Ground.phase }, { on := 5, ground := Ground.phase }, { on := 6, ground := Ground.phase }, { on := 7, ground := Ground.phase }, { on := 8, ground := Ground.phase }, { on := 9, ground := Ground.phase }, { on := 10, ground := Ground.phase }, { on := 11, ground := Ground.phase }, { on := 12, ground := Ground.phase }, { on := 13, ground := Ground.phase }, { on := 14, ground := Ground.textOnly Departure.lateStores }, { on := 15, ground := Ground.textOnly Departure.lateStores }, { on := 16, ground := Ground.textOnly Departure.lateStores }, { on := 17, ground := Ground.textOnly Departure.lateStores }, { on := 18, ground := Ground.textOnly Departure.lateStoresUnsure }, { on := 19, ground := Ground.textOnly Departure.lateStoresUnsure }, { on := 20, ground := Ground.textOnly Departure.lateStoresUnsure }, { on := 21, ground := Ground.textOnly Departure.lateStores }, { on := 22, ground := Ground.textOnly Departure.lateStores }, { on := 23, ground := Ground.textOnly Departure.lateStores }, { on := 24, ground := Ground.textOnly Departure.lateStores }, { on := 25, ground := Ground.textOnly Departure.lateStoresUnsure }, { on := 26, ground := Ground.textOnly Departure.lateStoresUnsure }, { on := 27, ground := Ground.textOnly Departure.lateStoresUnsure }, { on := 28, ground := Ground.phase }, { on := 29, ground := Ground.phase }], guard := none }) (by kernel_rfl) rfl (fun K hK => ?_)
    go_simp
    refine hK.out _ _ ?_ (fun HU => ?_)
    · intro c hc hl
      simp only [List.mem_cons, List.not_mem_nil, or_false] at hc
      rcases hc with rfl | rfl | rfl | rfl
      · exact absurd hl (fun h => Bool.noConfusion (h.symm.trans (by kernel_rfl : _ = true)))
      · exact absurd hl (fun h => Bool.noConfusion (h.symm.trans (by kernel_rfl : _ = true)))
      · exact (World.cell?_setCell_far _ _ _ _ (by simp <;> omega)).trans ((World.cell?_setCell_far _ _ _ _ (by simp <;> omega)).trans (hc2))
      · exact (World.cell?_setCell_far _ _ _ _ (by simp <;> omega)).trans ((World.cell?_setCell_far _ _ _ _ (by simp <;> omega)).trans (hc3))
    clear hK K
    try simp only [Act.put, List.setIfInBounds_toArray, List.set_cons_zero, List.set_cons_succ]
    refine Orders.take (fun _ => True) [] (i := 32) (oi := { dst := some 49, op := Op.fieldAddr 38 (Operand.tmp 6) 6, type := 0, pos := "law.go:146", after := #[{ on := 0, ground := Ground.phase }, { on := 1, ground := Ground.phase }, { on := 2, ground := Ground.phase }, { on := 3, ground := Ground.phase }, { on := 4, ground := Ground.phase }, { on := 5, ground := Ground.phase }, { on := 6, ground := Ground.phase }, { on := 7, ground := Ground.phase }, { on := 8, ground := Ground.phase }, { on := 9, ground := Ground.phase }, { on := 10, ground := Ground.phase }, { on := 11, ground := Ground.phase }, { on := 12, ground := Ground.phase }, { on := 13, ground := Ground.phase }, { on := 14, ground := Ground.phase }, { on := 15, ground := Ground.phase }, { on := 16, ground := Ground.phase }, { on := 17, ground := Ground.phase }, { on := 18, ground := Ground.phase }, { on := 19, ground := Ground.phase }, { on := 20, ground := Ground.phase }, { on := 21, ground := Ground.textOnly Departure.lateStores }, { on := 22, ground := Ground.textOnly Departure.lateStores }, { on := 23, ground := Ground.textOnly Departure.lateStores }, { on := 24, ground := Ground.textOnly Departure.lateStores }, { on := 25, ground := Ground.textOnly Departure.lateStoresUnsure }, { on := 26, ground := Ground.textOnly Departure.lateStoresUnsure }, { on := 27, ground := Ground.textOnly Departure.lateStoresUnsure }, { on := 28, ground := Ground.phase }, { on := 29, ground := Ground.phase }, { on := 30, ground := Ground.phase }, { on := 31, ground := Ground.phase }], guard := none }) (v := ?_) rfl (by kernel_rfl) (by kernel_rfl) (by kernel_rfl) (fun _ _ _ h => h) (by kernel_rfl) (fun _ _ _ _ => trivial) (by kernel_rfl) (by kernel_rfl) (Or.inl ⟨by rfl, ?_⟩) (by assumption) (fun HU => ?_)
    rotate_left
    · intro w hSw
      try dsimp only at hSw
      go_simp
      try (with_reducible rfl)
    try simp only [Act.put, List.setIfInBounds_toArray, List.set_cons_zero, List.set_cons_succ]
    refine Orders.one (i := 33) (o := { dst := none, op := Op.store 23 (Operand.tmp 49) (Operand.tmp 39), type := 0, pos := "law.go:146", after := #[{ on := 32, ground := Ground.data }, { on := 20, ground := Ground.data }, { on := 31, ground := Ground.chain }, { on := 0, ground := Ground.phase }, { on := 1, ground := Ground.phase }, { on := 2, ground := Ground.phase }, { on := 3, ground := Ground.phase }, { on := 4, ground := Ground.phase }, { on := 5, ground := Ground.phase }, { on := 6, ground := Ground.phase }, { on := 7, ground := Ground.phase }, { on := 8, ground := Ground.phase }, { on := 9, ground := Ground.phase }, { on := 10, ground := Ground.phase }, { on := 11, ground := Ground.phase }, { on := 12, ground := Ground.phase }, { on := 13, ground := Ground.phase }, { on := 14, ground := Ground.phase }, { on := 15, ground := Ground.phase }, { on := 16, ground := Ground.phase }, { on := 17, ground := Ground.phase }, { on := 18, ground := Ground.phase }, { on := 19, ground := Ground.phase }, { on := 20, ground := Ground.phase }, { on := 21, ground := Ground.textOnly Departure.lateStores }, { on := 22, ground := Ground.textOnly Departure.lateStores }, { on := 23, ground := Ground.textOnly Departure.lateStores }, { on := 24, ground := Ground.textOnly Departure.lateStores }, { on := 25, ground := Ground.textOnly Departure.lateStoresUnsure }, { on := 26, ground := Ground.textOnly Departure.lateStoresUnsure }, { on := 27, ground := Ground.textOnly Departure.lateStoresUnsure }, { on := 28, ground := Ground.phase }, { on := 29, ground := Ground.phase }, { on := 30, ground := Ground.phase }, { on := 31, ground := Ground.phase }], guard := none }) (by kernel_rfl) rfl (fun K hK => ?_)
    go_simp
    refine hK.out _ _ ?_ (fun HU => ?_)
    · intro c hc hl
      simp only [List.mem_cons, List.not_mem_nil, or_false] at hc
      rcases hc with rfl | rfl | rfl | rfl
      · exact absurd hl (fun h => Bool.noConfusion (h.symm.trans (by kernel_rfl : _ = true)))
      · exact absurd hl (fun h => Bool.noConfusion (h.symm.trans (by kernel_rfl : _ = true)))
      · exact absurd hl (fun h => Bool.noConfusion (h.symm.trans (by kernel_rfl : _ = true)))
      · exact (World.cell?_setCell_far _ _ _ _ (by simp <;> omega)).trans ((World.cell?_setCell_far _ _ _ _ (by simp <;> omega)).trans ((World.cell?_setCell_far _ _ _ _ (by simp <;> omega)).trans (hc3)))
    clear hK K
    try simp only [Act.put, List.setIfInBounds_toArray, List.set_cons_zero, List.set_cons_succ]
    refine Orders.take (fun _ => True) [] (i := 34) (oi := { dst := some 50, op := Op.fieldAddr 38 (Operand.tmp 7) 6, type := 0, pos := "law.go:146", after := #[{ on := 0, ground := Ground.phase }, { on := 1, ground := Ground.phase }, { on := 2, ground := Ground.phase }, { on := 3, ground := Ground.phase }, { on := 4, ground := Ground.phase }, { on := 5, ground := Ground.phase }, { on := 6, ground := Ground.phase }, { on := 7, ground := Ground.phase }, { on := 8, ground := Ground.phase }, { on := 9, ground := Ground.phase }, { on := 10, ground := Ground.phase }, { on := 11, ground := Ground.phase }, { on := 12, ground := Ground.phase }, { on := 13, ground := Ground.phase }, { on := 14, ground := Ground.phase }, { on := 15, ground := Ground.phase }, { on := 16, ground := Ground.phase }, { on := 17, ground := Ground.phase }, { on := 18, ground := Ground.phase }, { on := 19, ground := Ground.phase }, { on := 20, ground := Ground.phase }, { on := 21, ground := Ground.phase }, { on := 22, ground := Ground.phase }, { on := 23, ground := Ground.phase }, { on := 24, ground := Ground.phase }, { on := 25, ground := Ground.phase }, { on := 26, ground := Ground.phase }, { on := 27, ground := Ground.phase }, { on := 28, ground := Ground.phase }, { on := 29, ground := Ground.phase }, { on := 30, ground := Ground.phase }, { on := 31, ground := Ground.phase }, { on := 32, ground := Ground.phase }, { on := 33, ground := Ground.phase }], guard := none }) (v := ?_) rfl (by kernel_rfl) (by kernel_rfl) (by kernel_rfl) (fun _ _ _ h => h) (by kernel_rfl) (fun _ _ _ _ => trivial) (by kernel_rfl) (by kernel_rfl) (Or.inl ⟨by rfl, ?_⟩) (by assumption) (fun HU => ?_)
    rotate_left
    · intro w hSw
      try dsimp only at hSw
      go_simp
      try (with_reducible rfl)
    try simp only [Act.put, List.setIfInBounds_toArray, List.set_cons_zero, List.set_cons_succ]
    refine Orders.one (i := 35) (o := { dst := none, op := Op.store 23 (Operand.tmp 50) (Operand.tmp 46), type := 0, pos := "law.go:146", after := #[{ on := 34, ground := Ground.data }, { on := 27, ground := Ground.data }, { on := 33, ground := Ground.chain }, { on := 0, ground := Ground.phase }, { on := 1, ground := Ground.phase }, { on := 2, ground := Ground.phase }, { on := 3, ground := Ground.phase }, { on := 4, ground := Ground.phase }, { on := 5, ground := Ground.phase }, { on := 6, ground := Ground.phase }, { on := 7, ground := Ground.phase }, { on := 8, ground := Ground.phase }, { on := 9, ground := Ground.phase }, { on := 10, ground := Ground.phase }, { on := 11, ground := Ground.phase }, { on := 12, ground := Ground.phase }, { on := 13, ground := Ground.phase }, { on := 14, ground := Ground.phase }, { on := 15, ground := Ground.phase }, { on := 16, ground := Ground.phase }, { on := 17, ground := Ground.phase }, { on := 18, ground := Ground.phase }, { on := 19, ground := Ground.phase }, { on := 20, ground := Ground.phase }, { on := 21, ground := Ground.phase }, { on := 22, ground := Ground.phase }, { on := 23, ground := Ground.phase }, { on := 24, ground := Ground.phase }, { on := 25, ground := Ground.phase }, { on := 26, ground := Ground.phase }, { on := 27, ground := Ground.phase }, { on := 28, ground := Ground.phase }, { on := 29, ground := Ground.phase }, { on := 30, ground := Ground.phase }, { on := 31, ground := Ground.phase }, { on := 32, ground := Ground.phase }, { on := 33, ground := Ground.phase }], guard := none }) (by kernel_rfl) rfl (fun K hK => ?_)
    go_simp
    refine hK.out _ _ ?_ (fun HU => ?_)
    · intro c hc hl
      simp only [List.mem_cons, List.not_mem_nil, or_false] at hc
      rcases hc with rfl | rfl | rfl | rfl
      · exact absurd hl (fun h => Bool.noConfusion (h.symm.trans (by kernel_rfl : _ = true)))
      · exact absurd hl (fun h => Bool.noConfusion (h.symm.trans (by kernel_rfl : _ = true)))
      · exact absurd hl (fun h => Bool.noConfusion (h.symm.trans (by kernel_rfl : _ = true)))
      · exact absurd hl (fun h => Bool.noConfusion (h.symm.trans (by kernel_rfl : _ = true)))
    clear hK K
    try simp only [Act.put, List.setIfInBounds_toArray, List.set_cons_zero, List.set_cons_succ]
    refine Orders.ends (by kernel_rfl) ?_ _
    refine NoPanic.normal ?_
    go_wp2_with fail
    go_meet
    exact ⟨rfl, rfl⟩
  case rest =>
    obtain ⟨rfl, hwc⟩ := hcut
    obtain ⟨wr, hwr⟩ : ∃ wr, wr = ((((wa.setCell ⟨w.heap.size, 12, none⟩ (.slice A1 K1 C1)).setCell ⟨w.heap.size + 1, 12, none⟩ (.slice A2 K2 C2)).setCell ⟨w.heap.size + 1 + 1, 6, none⟩ (.slice A3 K3 C3)).setCell ⟨w.heap.size + 1 + 1 + 1, 6, none⟩ (.slice A4 K4 C4)) := ⟨_, rfl⟩
    rw [← hwr] at hwc
    have HR0c := hid (show wc.heap[w.heap.size]? = some (.cells #[.int .u8 (x1.k : Int), .int .u8 (x1.n : Int), .int .u32 (x1.e : Int), .int .u32 (x1.l : Int), .int .u32 (x1.t : Int), .int .u32 (x1.g : Int), .int .u32 (x1.j : Int), .int .u32 (x1.v : Int), .int .u8 (x1.r : Int), .int .i64 x1.c, .int .u32 (x1.f : Int), .int .u32 (x1.o : Int), .slice A1 K1 C1] 25 (0, 0)) by rw [hwc]; show wr.heap[w.heap.size]? = some (.cells #[.int .u8 (x1.k : Int), .int .u8 (x1.n : Int), .int .u32 (x1.e : Int), .int .u32 (x1.l : Int), .int .u32 (x1.t : Int), .int .u32 (x1.g : Int), .int .u32 (x1.j : Int), .int .u32 (x1.v : Int), .int .u8 (x1.r : Int), .int .i64 x1.c, .int .u32 (x1.f : Int), .int .u32 (x1.o : Int), .slice A1 K1 C1] 25 (0, 0)); rw [hwr]; exact ((heap_setCell_other _ _ _ _ (by simp <;> omega)).trans ((heap_setCell_other _ _ _ _ (by simp <;> omega)).trans ((heap_setCell_other _ _ _ _ (by simp <;> omega)).trans (heap_setCell_same _ _ _ _ _ _ H0a.out)))))
    have HR1c := hid (show wc.heap[w.heap.size + 1]? = some (.cells #[.int .u8 (x2.k : Int), .int .u8 (x2.n : Int), .int .u32 (x2.e : Int), .int .u32 (x2.l : Int), .int .u32 (x2.t : Int), .int .u32 (x2.g : Int), .int .u32 (x2.j : Int), .int .u32 (x2.v : Int), .int .u8 (x2.r : Int), .int .i64 x2.c, .int .u32 (x2.f : Int), .int .u32 (x2.o : Int), .slice A2 K2 C2] 25 (0, 0)) by rw [hwc]; show wr.heap[w.heap.size + 1]? = some (.cells #[.int .u8 (x2.k : Int), .int .u8 (x2.n : Int), .int .u32 (x2.e : Int), .int .u32 (x2.l : Int), .int .u32 (x2.t : Int), .int .u32 (x2.g : Int), .int .u32 (x2.j : Int), .int .u32 (x2.v : Int), .int .u8 (x2.r : Int), .int .i64 x2.c, .int .u32 (x2.f : Int), .int .u32 (x2.o : Int), .slice A2 K2 C2] 25 (0, 0)); rw [hwr]; exact ((heap_setCell_other _ _ _ _ (by simp <;> omega)).trans ((heap_setCell_other _ _ _ _ (by simp <;> omega)).trans (heap_setCell_same _ _ _ _ _ _ ((heap_setCell_other _ _ _ _ (by simp <;> omega)).trans H1a.out)))))
    have HR2c := hid (show wc.heap[w.heap.size + 1 + 1]? = some (.cells #[.int .u8 (y1.n : Int), .int .u32 (y1.e : Int), .int .u32 (y1.l : Int), .int .u32 (y1.s : Int), .int .u32 (y1.a : Int), .bool y1.p, .slice A3 K3 C3] 38 (0, 0)) by rw [hwc]; show wr.heap[w.heap.size + 1 + 1]? = some (.cells #[.int .u8 (y1.n : Int), .int .u32 (y1.e : Int), .int .u32 (y1.l : Int), .int .u32 (y1.s : Int), .int .u32 (y1.a : Int), .bool y1.p, .slice A3 K3 C3] 38 (0, 0)); rw [hwr]; exact ((heap_setCell_other _ _ _ _ (by simp <;> omega)).trans (heap_setCell_same _ _ _ _ _ _ ((heap_setCell_other _ _ _ _ (by simp <;> omega)).trans ((heap_setCell_other _ _ _ _ (by simp <;> omega)).trans H2a.out)))))
    have HR3c := hid (show wc.heap[w.heap.size + 1 + 1 + 1]? = some (.cells #[.int .u8 (y2.n : Int), .int .u32 (y2.e : Int), .int .u32 (y2.l : Int), .int .u32 (y2.s : Int), .int .u32 (y2.a : Int), .bool y2.p, .slice A4 K4 C4] 38 (0, 0)) by rw [hwc]; show wr.heap[w.heap.size + 1 + 1 + 1]? = some (.cells #[.int .u8 (y2.n : Int), .int .u32 (y2.e : Int), .int .u32 (y2.l : Int), .int .u32 (y2.s : Int), .int .u32 (y2.a : Int), .bool y2.p, .slice A4 K4 C4] 38 (0, 0)); rw [hwr]; exact (heap_setCell_same _ _ _ _ _ _ ((heap_setCell_other _ _ _ _ (by simp <;> omega)).trans ((heap_setCell_other _ _ _ _ (by simp <;> omega)).trans ((heap_setCell_other _ _ _ _ (by simp <;> omega)).trans H3a.out)))))
    have HBc := hid (show Below w.heap.size w wc by
      have h1 : Below w.heap.size w wr := by rw [hwr]; exact ((((HBa.out.setCell (by simp <;> omega) _).setCell (by simp <;> omega) _).setCell (by simp <;> omega) _).setCell (by simp <;> omega) _)
      rw [hwc]; exact ⟨h1.os, h1.tape, h1.output, h1.size, h1.block⟩)
    have hsc : w.heap.size + 1 + 1 + 1 + 1 ≤ wc.heap.size := by rw [hwc]; show _ ≤ wr.heap.size; rw [hwr]; simp; omega
    clear hwc hwr hc0 hf0 hc1 hf1 hc2 hf2 hc3 hf3
    go_wp2_with (first | (refine load_st rfl 25 (.tmp 4) rfl w.heap.size rfl #[.int .u8 (x1.k : Int), .int .u8 (x1.n : Int), .int .u32 (x1.e : Int), .int .u32 (x1.l : Int), .int .u32 (x1.t : Int), .int .u32 (x1.g : Int), .int .u32 (x1.j : Int), .int .u32 (x1.v : Int), .int .u8 (x1.r : Int), .int .i64 x1.c, .int .u32 (x1.f : Int), .int .u32 (x1.o : Int), .slice A1 K1 C1] _ 13 HR0c.out Try.underlying25 size_note rfl ?_) | fail)
    refine (note_st x1 A1 C1 K1 HL1.out wc HX1.out (HRR1.out.below HBc.out) (fun k hk => Nat.lt_of_lt_of_le (HOB1.out k hk) (by omega))).mono ?_
    rintro e wd ⟨kv1, ec1, rfl, hb, hcase⟩
    have HK1 := hid hcase
    have hsd := hb.size
    have HBd := hid (HBc.out.trans (hb.mono (by omega)))
    have HR0d := hid ((hb.block (w.heap.size) (by omega)).trans HR0c.out)
    have HR1d := hid ((hb.block (w.heap.size + 1) (by omega)).trans HR1c.out)
    have HR2d := hid ((hb.block (w.heap.size + 1 + 1) (by omega)).trans HR2c.out)
    have HR3d := hid ((hb.block (w.heap.size + 1 + 1 + 1) (by omega)).trans HR3c.out)
    clear hb hcase
    go_wp2_with (first | (refine load_st rfl 25 (.tmp 5) rfl (w.heap.size + 1) rfl #[.int .u8 (x2.k : Int), .int .u8 (x2.n : Int), .int .u32 (x2.e : Int), .int .u32 (x2.l : Int), .int .u32 (x2.t : Int), .int .u32 (x2.g : Int), .int .u32 (x2.j : Int), .int .u32 (x2.v : Int), .int .u8 (x2.r : Int), .int .i64 x2.c, .int .u32 (x2.f : Int), .int .u32 (x2.o : Int), .slice A2 K2 C2] _ 13 HR1d.out Try.underlying25 size_note rfl ?_) | fail)
    refine (note_st x2 A2 C2 K2 HL2.out wd HX2.out (HRR2.out.below HBd.out) (fun k hk => Nat.lt_of_lt_of_le (HOB2.out k hk) (by omega))).mono ?_
    rintro e we ⟨kv2, ec2, rfl, hb, hcase⟩
    have HK2 := hid hcase
    have hse := hb.size
    have HBe := hid (HBd.out.trans (hb.mono (by omega)))
    have HR0e := hid ((hb.block (w.heap.size) (by omega)).trans HR0d.out)
    have HR1e := hid ((hb.block (w.heap.size + 1) (by omega)).trans HR1d.out)
    have HR2e := hid ((hb.block (w.heap.size + 1 + 1) (by omega)).trans HR2d.out)
    have HR3e := hid ((hb.block (w.heap.size + 1 + 1 + 1) (by omega)).trans HR3d.out)
    have HW1e := hid (fun (l : List UInt8) (h : Rd wd kv1 l) => h.below hb)
    clear hb hcase
    go_wp2_with (first | (refine load_st rfl 38 (.tmp 6) rfl (w.heap.size + 1 + 1) rfl #[.int .u8 (y1.n : Int), .int .u32 (y1.e : Int), .int .u32 (y1.l : Int), .int .u32 (y1.s : Int), .int .u32 (y1.a : Int), .bool y1.p, .slice A3 K3 C3] _ 7 HR2e.out Try.underlying38 size_packet rfl ?_) | fail)
    refine (packet_st y1 A3 C3 K3 HL3.out we HX3.out (HRR3.out.below HBe.out) (fun k hk => Nat.lt_of_lt_of_le (HOB3.out k hk) (by omega))).mono ?_
    rintro e wf ⟨kv3, ec3, rfl, hb, hcase⟩
    have HK3 := hid hcase
    have hsf := hb.size
    have HBf := hid (HBe.out.trans (hb.mono (by omega)))
    have HR0f := hid ((hb.block (w.heap.size) (by omega)).trans HR0e.out)
    have HR1f := hid ((hb.block (w.heap.size + 1) (by omega)).trans HR1e.out)
    have HR2f := hid ((hb.block (w.heap.size + 1 + 1) (by omega)).trans HR2e.out)
    have HR3f := hid ((hb.block (w.heap.size + 1 + 1 + 1) (by omega)).trans HR3e.out)
    have HW1f := hid (fun (l : List UInt8) (h : Rd we kv1 l) => h.below hb)
    have HW2f := hid (fun (l : List UInt8) (h : Rd we kv2 l) => h.below hb)
    clear hb hcase
    go_wp2_with (first | (refine load_st rfl 38 (.tmp 7) rfl (w.heap.size + 1 + 1 + 1) rfl #[.int .u8 (y2.n : Int), .int .u32 (y2.e : Int), .int .u32 (y2.l : Int), .int .u32 (y2.s : Int), .int .u32 (y2.a : Int), .bool y2.p, .slice A4 K4 C4] _ 7 HR3f.out Try.underlying38 size_packet rfl ?_) | fail)
    refine (packet_st y2 A4 C4 K4 HL4.out wf HX4.out (HRR4.out.below HBf.out) (fun k hk => Nat.lt_of_lt_of_le (HOB4.out k hk) (by omega))).mono ?_
    rintro e w0 ⟨kv4, ec4, rfl, hb, hcase⟩
    have HK4 := hid hcase
    have hs0 := hb.size
    have HB0 := hid (HBf.out.trans (hb.mono (by omega)))
    have HR00 := hid ((hb.block (w.heap.size) (by omega)).trans HR0f.out)
    have HR10 := hid ((hb.block (w.heap.size + 1) (by omega)).trans HR1f.out)
    have HR20 := hid ((hb.block (w.heap.size + 1 + 1) (by omega)).trans HR2f.out)
    have HR30 := hid ((hb.block (w.heap.size + 1 + 1 + 1) (by omega)).trans HR3f.out)
    have HW10 := hid (fun (l : List UInt8) (h : Rd wf kv1 l) => h.below hb)
    have HW20 := hid (fun (l : List UInt8) (h : Rd wf kv2 l) => h.below hb)
    have HW30 := hid (fun (l : List UInt8) (h : Rd wf kv3 l) => h.below hb)
    clear hb hcase
    have HR0 := hid HR00.out
    have HR1 := hid HR10.out
    have HR2 := hid HR20.out
    have HR3 := hid HR30.out
    have HD1 := hid (HRR1.out.below HB0.out)
    have HD2 := hid (HRR2.out.below HB0.out)
    have HD3 := hid (HRR3.out.below HB0.out)
    have HD4 := hid (HRR4.out.below HB0.out)
    by_cases t1 : ec1 = 0
    · by_cases t2 : ec2 = 0
      · by_cases t3 : ec3 = 0
        · by_cases t4 : ec4 = 0
          · have z1 : ((ec1 : Int) != 0) = false := by rw [bne_eq_false_iff_eq]; omega
            have z2 : ((ec2 : Int) != 0) = false := by rw [bne_eq_false_iff_eq]; omega
            have z3 : ((ec3 : Int) != 0) = false := by rw [bne_eq_false_iff_eq]; omega
            have z4 : ((ec4 : Int) != 0) = false := by rw [bne_eq_false_iff_eq]; omega
            have q1 := HK1.out.resolve_right (fun h => by omega)
            have q2 := HK2.out.resolve_right (fun h => by omega)
            have HO1 := hid ((HW10.out _ (HW1f.out _ (HW1e.out _ q1.2.2))))
            have HO2 := hid ((HW20.out _ (HW2f.out _ q2.2.2)))
            have HEQ1 := hid (knots_sameN x1 x2 ⟨HX1.out, q1.1⟩ ⟨HX2.out, q2.1⟩)
            clear q1 q2
            have q3 := HK3.out.resolve_right (fun h => by omega)
            have q4 := HK4.out.resolve_right (fun h => by omega)
            have HO3 := hid ((HW30.out _ q3.2.2))
            have HO4 := hid (q4.2.2)
            have HEQ2 := hid (knots_sameP y1 y2 ⟨HX3.out, q3.1⟩ ⟨HX4.out, q4.1⟩)
            clear q3 q4
            clear t1 t2 t3 t4
            go_wp2_with fail
            refine wp_region_noPanic ?_
            refine wp_region_held_drew (S := (fun w' => w'.heap[w.heap.size]? = some (.cells #[.int .u8 (x1.k : Int), .int .u8 (x1.n : Int), .int .u32 (x1.e : Int), .int .u32 (x1.l : Int), .int .u32 (x1.t : Int), .int .u32 (x1.g : Int), .int .u32 (x1.j : Int), .int .u32 (x1.v : Int), .int .u8 (x1.r : Int), .int .i64 x1.c, .int .u32 (x1.f : Int), .int .u32 (x1.o : Int), .slice A1 K1 C1] 25 (0, 0)) ∧ w'.heap[w.heap.size + 1]? = some (.cells #[.int .u8 (x2.k : Int), .int .u8 (x2.n : Int), .int .u32 (x2.e : Int), .int .u32 (x2.l : Int), .int .u32 (x2.t : Int), .int .u32 (x2.g : Int), .int .u32 (x2.j : Int), .int .u32 (x2.v : Int), .int .u8 (x2.r : Int), .int .i64 x2.c, .int .u32 (x2.f : Int), .int .u32 (x2.o : Int), .slice A2 K2 C2] 25 (0, 0)) ∧ w'.heap[w.heap.size + 1 + 1]? = some (.cells #[.int .u8 (y1.n : Int), .int .u32 (y1.e : Int), .int .u32 (y1.l : Int), .int .u32 (y1.s : Int), .int .u32 (y1.a : Int), .bool y1.p, .slice A3 K3 C3] 38 (0, 0)) ∧ w'.heap[w.heap.size + 1 + 1 + 1]? = some (.cells #[.int .u8 (y2.n : Int), .int .u32 (y2.e : Int), .int .u32 (y2.l : Int), .int .u32 (y2.s : Int), .int .u32 (y2.a : Int), .bool y2.p, .slice A4 K4 C4] 38 (0, 0)))) (by kernel_rfl) ?_ (fun hHeld => ?_)
            · exact ⟨HR0.out, HR1.out, HR2.out, HR3.out⟩
            refine wpAnyH_take (i := 0) (oi := { dst := some 71, op := Op.move (Operand.tmp 10), type := 27, pos := "law.go:151", after := #[], guard := none }) (v := ?_) rfl (by kernel_rfl) (by kernel_rfl) (by kernel_rfl) (fun _ _ _ h => h) (Or.inl ⟨by rfl, ?_⟩) (by assumption) ?_
            rotate_left
            · intro w hSw
              try dsimp only at hSw
              clear hSw
              go_simp
              try (with_reducible rfl)
            try simp only [Act.put, List.setIfInBounds_toArray, List.set_cons_zero, List.set_cons_succ]
            refine wpAnyH_take (i := 1) (oi := { dst := some 72, op := Op.binOp BinOp.neq 27 (Operand.tmp 71) (Operand.const (Value.int IntKind.i64 0)) 27, type := 4, pos := "law.go:151", after := #[{ on := 0, ground := Ground.data }], guard := none }) (v := ?_) rfl (by kernel_rfl) (by kernel_rfl) (by kernel_rfl) (fun _ _ _ h => h) (Or.inl ⟨by rfl, ?_⟩) (by assumption) ?_
            rotate_left
            · intro w hSw
              try dsimp only at hSw
              clear hSw
              go_simp
              try (with_reducible rfl)
            try simp only [Act.put, List.setIfInBounds_toArray, List.set_cons_zero, List.set_cons_succ]
            refine wpAnyH_take (i := 2) (oi := { dst := some 73, op := Op.move (Operand.tmp 72), type := 4, pos := "law.go:151", after := #[{ on := 1, ground := Ground.data }], guard := none }) (v := ?_) rfl (by kernel_rfl) (by kernel_rfl) (by kernel_rfl) (fun _ _ _ h => h) (Or.inl ⟨by rfl, ?_⟩) (by assumption) ?_
            rotate_left
            · intro w hSw
              try dsimp only at hSw
              clear hSw
              go_simp
              try (with_reducible rfl)
            try simp only [Act.put, List.setIfInBounds_toArray, List.set_cons_zero, List.set_cons_succ]
            refine wpAnyH_take (i := 3) (oi := { dst := some 74, op := Op.move (Operand.tmp 12), type := 27, pos := "law.go:151", after := #[{ on := 2, ground := Ground.guard }], guard := some (2, false) }) (v := ?_) rfl (by kernel_rfl) (by kernel_rfl) (by kernel_rfl) (fun _ _ _ h => h) (Or.inl ⟨by rfl, ?_⟩) (by assumption) ?_
            rotate_left
            · intro w hSw
              try dsimp only at hSw
              clear hSw
              go_simp
              try (with_reducible rfl)
            try simp only [Act.put, List.setIfInBounds_toArray, List.set_cons_zero, List.set_cons_succ]
            refine wpAnyH_take (i := 4) (oi := { dst := some 75, op := Op.binOp BinOp.neq 27 (Operand.tmp 74) (Operand.const (Value.int IntKind.i64 0)) 27, type := 4, pos := "law.go:151", after := #[{ on := 3, ground := Ground.data }, { on := 2, ground := Ground.guard }], guard := some (2, false) }) (v := ?_) rfl (by kernel_rfl) (by kernel_rfl) (by kernel_rfl) (fun _ _ _ h => h) (Or.inl ⟨by rfl, ?_⟩) (by assumption) ?_
            rotate_left
            · intro w hSw
              try dsimp only at hSw
              clear hSw
              go_simp
              try (with_reducible rfl)
            try simp only [Act.put, List.setIfInBounds_toArray, List.set_cons_zero, List.set_cons_succ]
            refine wpAnyH_take (i := 5) (oi := { dst := some 76, op := Op.pick (Operand.tmp 73) (Operand.const (Value.bool true)) (Operand.tmp 75), type := 4, pos := "law.go:151", after := #[{ on := 2, ground := Ground.data }, { on := 4, ground := Ground.data }], guard := none }) (v := ?_) rfl (by kernel_rfl) (by kernel_rfl) (by kernel_rfl) (fun _ _ _ h => h) (Or.inl ⟨by rfl, ?_⟩) (by assumption) ?_
            rotate_left
            · intro w hSw
              try dsimp only at hSw
              clear hSw
              go_simp
              try (with_reducible rfl)
            try simp only [Act.put, List.setIfInBounds_toArray, List.set_cons_zero, List.set_cons_succ]
            refine wpAnyH_take (i := 6) (oi := { dst := some 77, op := Op.move (Operand.tmp 76), type := 4, pos := "law.go:151", after := #[{ on := 5, ground := Ground.data }, { on := 2, ground := Ground.chain }], guard := none }) (v := ?_) rfl (by kernel_rfl) (by kernel_rfl) (by kernel_rfl) (fun _ _ _ h => h) (Or.inl ⟨by rfl, ?_⟩) (by assumption) ?_
            rotate_left
            · intro w hSw
              try dsimp only at hSw
              clear hSw
              go_simp
              try (with_reducible rfl)
            try simp only [Act.put, List.setIfInBounds_toArray, List.set_cons_zero, List.set_cons_succ]
            refine wpAnyH_take (i := 7) (oi := { dst := some 78, op := Op.move (Operand.tmp 9), type := 23, pos := "law.go:151", after := #[{ on := 6, ground := Ground.guard }], guard := some (6, false) }) (v := ?_) rfl (by kernel_rfl) (by kernel_rfl) (by kernel_rfl) (fun _ _ _ h => h) (Or.inl ⟨by rfl, ?_⟩) (by assumption) ?_
            rotate_left
            · intro w hSw
              try dsimp only at hSw
              clear hSw
              go_simp
              try (with_reducible rfl)
            try simp only [Act.put, List.setIfInBounds_toArray, List.set_cons_zero, List.set_cons_succ]
            refine wpAnyH_take (i := 8) (oi := { dst := some 79, op := Op.move (Operand.tmp 11), type := 23, pos := "law.go:151", after := #[{ on := 6, ground := Ground.guard }], guard := some (6, false) }) (v := ?_) rfl (by kernel_rfl) (by kernel_rfl) (by kernel_rfl) (fun _ _ _ h => h) (Or.inl ⟨by rfl, ?_⟩) (by assumption) ?_
            rotate_left
            · intro w hSw
              try dsimp only at hSw
              clear hSw
              go_simp
              try (with_reducible rfl)
            try simp only [Act.put, List.setIfInBounds_toArray, List.set_cons_zero, List.set_cons_succ]
            refine wpAnyH_take (i := 10) (oi := { dst := some 81, op := Op.load 25 (Operand.tmp 4), type := 25, pos := "law.go:151", after := #[{ on := 6, ground := Ground.guard }], guard := some (6, false) }) (v := ?_) rfl (by kernel_rfl) (by kernel_rfl) (by kernel_rfl) (fun _ _ _ h => h) (Or.inl ⟨by rfl, ?_⟩) (by assumption) ?_
            rotate_left
            · intro u hSu
              obtain ⟨s0, s1, s2, s3⟩ := hSu
              have c0_0 : u.cell? ⟨w.heap.size, 0, none⟩ = some (.int .u8 (x1.k : Int)) := (cell_of_row _ _ _ _ _ _ s0).trans rfl
              have c0_1 : u.cell? ⟨w.heap.size, 1, none⟩ = some (.int .u8 (x1.n : Int)) := (cell_of_row _ _ _ _ _ _ s0).trans rfl
              have c0_2 : u.cell? ⟨w.heap.size, 2, none⟩ = some (.int .u32 (x1.e : Int)) := (cell_of_row _ _ _ _ _ _ s0).trans rfl
              have c0_3 : u.cell? ⟨w.heap.size, 3, none⟩ = some (.int .u32 (x1.l : Int)) := (cell_of_row _ _ _ _ _ _ s0).trans rfl
              have c0_4 : u.cell? ⟨w.heap.size, 4, none⟩ = some (.int .u32 (x1.t : Int)) := (cell_of_row _ _ _ _ _ _ s0).trans rfl
              have c0_5 : u.cell? ⟨w.heap.size, 5, none⟩ = some (.int .u32 (x1.g : Int)) := (cell_of_row _ _ _ _ _ _ s0).trans rfl
              have c0_6 : u.cell? ⟨w.heap.size, 6, none⟩ = some (.int .u32 (x1.j : Int)) := (cell_of_row _ _ _ _ _ _ s0).trans rfl
              have c0_7 : u.cell? ⟨w.heap.size, 7, none⟩ = some (.int .u32 (x1.v : Int)) := (cell_of_row _ _ _ _ _ _ s0).trans rfl
              have c0_8 : u.cell? ⟨w.heap.size, 8, none⟩ = some (.int .u8 (x1.r : Int)) := (cell_of_row _ _ _ _ _ _ s0).trans rfl
              have c0_9 : u.cell? ⟨w.heap.size, 9, none⟩ = some (.int .i64 x1.c) := (cell_of_row _ _ _ _ _ _ s0).trans rfl
              have c0_10 : u.cell? ⟨w.heap.size, 10, none⟩ = some (.int .u32 (x1.f : Int)) := (cell_of_row _ _ _ _ _ _ s0).trans rfl
              have c0_11 : u.cell? ⟨w.heap.size, 11, none⟩ = some (.int .u32 (x1.o : Int)) := (cell_of_row _ _ _ _ _ _ s0).trans rfl
              have c0_12 : u.cell? ⟨w.heap.size, 12, none⟩ = some (.slice A1 K1 C1) := (cell_of_row _ _ _ _ _ _ s0).trans rfl
              clear s0 s1 s2 s3
              go_simp
              try (with_reducible rfl)
            try simp only [Act.put, List.setIfInBounds_toArray, List.set_cons_zero, List.set_cons_succ]
            refine wpAnyH_take (i := 11) (oi := { dst := some 82, op := Op.load 25 (Operand.tmp 5), type := 25, pos := "law.go:151", after := #[{ on := 6, ground := Ground.guard }], guard := some (6, false) }) (v := ?_) rfl (by kernel_rfl) (by kernel_rfl) (by kernel_rfl) (fun _ _ _ h => h) (Or.inl ⟨by rfl, ?_⟩) (by assumption) ?_
            rotate_left
            · intro u hSu
              obtain ⟨s0, s1, s2, s3⟩ := hSu
              have c1_0 : u.cell? ⟨w.heap.size + 1, 0, none⟩ = some (.int .u8 (x2.k : Int)) := (cell_of_row _ _ _ _ _ _ s1).trans rfl
              have c1_1 : u.cell? ⟨w.heap.size + 1, 1, none⟩ = some (.int .u8 (x2.n : Int)) := (cell_of_row _ _ _ _ _ _ s1).trans rfl
              have c1_2 : u.cell? ⟨w.heap.size + 1, 2, none⟩ = some (.int .u32 (x2.e : Int)) := (cell_of_row _ _ _ _ _ _ s1).trans rfl
              have c1_3 : u.cell? ⟨w.heap.size + 1, 3, none⟩ = some (.int .u32 (x2.l : Int)) := (cell_of_row _ _ _ _ _ _ s1).trans rfl
              have c1_4 : u.cell? ⟨w.heap.size + 1, 4, none⟩ = some (.int .u32 (x2.t : Int)) := (cell_of_row _ _ _ _ _ _ s1).trans rfl
              have c1_5 : u.cell? ⟨w.heap.size + 1, 5, none⟩ = some (.int .u32 (x2.g : Int)) := (cell_of_row _ _ _ _ _ _ s1).trans rfl
              have c1_6 : u.cell? ⟨w.heap.size + 1, 6, none⟩ = some (.int .u32 (x2.j : Int)) := (cell_of_row _ _ _ _ _ _ s1).trans rfl
              have c1_7 : u.cell? ⟨w.heap.size + 1, 7, none⟩ = some (.int .u32 (x2.v : Int)) := (cell_of_row _ _ _ _ _ _ s1).trans rfl
              have c1_8 : u.cell? ⟨w.heap.size + 1, 8, none⟩ = some (.int .u8 (x2.r : Int)) := (cell_of_row _ _ _ _ _ _ s1).trans rfl
              have c1_9 : u.cell? ⟨w.heap.size + 1, 9, none⟩ = some (.int .i64 x2.c) := (cell_of_row _ _ _ _ _ _ s1).trans rfl
              have c1_10 : u.cell? ⟨w.heap.size + 1, 10, none⟩ = some (.int .u32 (x2.f : Int)) := (cell_of_row _ _ _ _ _ _ s1).trans rfl
              have c1_11 : u.cell? ⟨w.heap.size + 1, 11, none⟩ = some (.int .u32 (x2.o : Int)) := (cell_of_row _ _ _ _ _ _ s1).trans rfl
              have c1_12 : u.cell? ⟨w.heap.size + 1, 12, none⟩ = some (.slice A2 K2 C2) := (cell_of_row _ _ _ _ _ _ s1).trans rfl
              clear s0 s1 s2 s3
              go_simp
              try (with_reducible rfl)
            try simp only [Act.put, List.setIfInBounds_toArray, List.set_cons_zero, List.set_cons_succ]
            refine wpAnyH_ready (rs := [9]) (by kernel_rfl) (by simp) ?_
            refine AllReadyH.cons (o := { dst := some 80, op := Op.call { callee := Callee.value (Operand.func 12), args := #[Operand.tmp 78, Operand.tmp 79], argTypes := #[23, 23] }, type := 4, pos := "law.go:151", after := #[{ on := 7, ground := Ground.data }, { on := 8, ground := Ground.data }, { on := 6, ground := Ground.chain }, { on := 6, ground := Ground.guard }], guard := some (6, false) }) rfl (fun K hK => ?_) AllReadyH.nil
            go_simp
            refine (same_any kv1 kv2 (Knot.knot x1.enc) (Knot.knot x2.enc) _ (show Rd w0.drew kv1 _ from HO1.out) (show Rd w0.drew kv2 _ from HO2.out)).mono ?_
            rintro e w' ⟨rfl, rfl⟩
            rw [HEQ1.out]
            go_wp2_with fail
            refine hK.out _ _ ?_ (fun hHeld => ?_)
            · exact hHeld
            clear hK K
            try simp only [Act.put, List.setIfInBounds_toArray, List.set_cons_zero, List.set_cons_succ]
            refine wpAnyH_ready (rs := [12]) (by kernel_rfl) (by simp) ?_
            refine AllReadyH.cons (o := { dst := some 83, op := Op.call { callee := Callee.value (Operand.func 13), args := #[Operand.tmp 81, Operand.tmp 82], argTypes := #[25, 25] }, type := 4, pos := "law.go:151", after := #[{ on := 10, ground := Ground.data }, { on := 11, ground := Ground.data }, { on := 9, ground := Ground.chain }, { on := 6, ground := Ground.guard }], guard := some (6, false) }) rfl (fun K hK => ?_) AllReadyH.nil
            go_simp
            refine (samenote_any x1 x2 A1 A2 C1 C2 K1 K2 _ (show Rd w0.drew _ _ from HD1.out) (show Rd w0.drew _ _ from HD2.out)).mono ?_
            rintro e wk ⟨rfl, hbk⟩
            have HBK := hid (show Below w0.heap.size w0 wk from ⟨hbk.os, hbk.tape, hbk.output, hbk.size, hbk.block⟩)
            clear hbk
            go_wp2_with fail
            refine hK.out _ _ ?_ (fun hHeld => ?_)
            · exact ⟨(HBK.out.block _ (by omega)).trans HR0.out, (HBK.out.block _ (by omega)).trans HR1.out, (HBK.out.block _ (by omega)).trans HR2.out, (HBK.out.block _ (by omega)).trans HR3.out⟩
            clear hK K
            try simp only [Act.put, List.setIfInBounds_toArray, List.set_cons_zero, List.set_cons_succ]
            refine wpAnyH_take (i := 13) (oi := { dst := some 84, op := Op.binOp BinOp.eql 4 (Operand.tmp 80) (Operand.tmp 83) 4, type := 4, pos := "law.go:151", after := #[{ on := 9, ground := Ground.data }, { on := 12, ground := Ground.data }, { on := 6, ground := Ground.guard }], guard := some (6, false) }) (v := ?_) rfl (by kernel_rfl) (by kernel_rfl) (by kernel_rfl) (fun _ _ _ h => h) (Or.inl ⟨by rfl, ?_⟩) (by assumption) ?_
            rotate_left
            · intro w hSw
              try dsimp only at hSw
              clear hSw
              go_simp
              try (with_reducible rfl)
            try simp only [Act.put, List.setIfInBounds_toArray, List.set_cons_zero, List.set_cons_succ]
            refine wpAnyH_take (i := 14) (oi := { dst := some 85, op := Op.pick (Operand.tmp 77) (Operand.const (Value.bool true)) (Operand.tmp 84), type := 4, pos := "law.go:151", after := #[{ on := 6, ground := Ground.data }, { on := 13, ground := Ground.data }], guard := none }) (v := ?_) rfl (by kernel_rfl) (by kernel_rfl) (by kernel_rfl) (fun _ _ _ h => h) (Or.inl ⟨by rfl, ?_⟩) (by assumption) ?_
            rotate_left
            · intro w hSw
              try dsimp only at hSw
              clear hSw
              go_simp
              try (with_reducible rfl)
            try simp only [Act.put, List.setIfInBounds_toArray, List.set_cons_zero, List.set_cons_succ]
            refine wpAnyH_take (i := 15) (oi := { dst := some 86, op := Op.move (Operand.tmp 85), type := 4, pos := "law.go:151", after := #[{ on := 14, ground := Ground.data }, { on := 12, ground := Ground.chain }], guard := none }) (v := ?_) rfl (by kernel_rfl) (by kernel_rfl) (by kernel_rfl) (fun _ _ _ h => h) (Or.inl ⟨by rfl, ?_⟩) (by assumption) ?_
            rotate_left
            · intro w hSw
              try dsimp only at hSw
              clear hSw
              go_simp
              try (with_reducible rfl)
            try simp only [Act.put, List.setIfInBounds_toArray, List.set_cons_zero, List.set_cons_succ]
            refine wpAnyH_take (i := 16) (oi := { dst := some 87, op := Op.move (Operand.tmp 14), type := 27, pos := "law.go:151", after := #[{ on := 15, ground := Ground.guard }], guard := some (15, true) }) (v := ?_) rfl (by kernel_rfl) (by kernel_rfl) (by kernel_rfl) (fun _ _ _ h => h) (Or.inl ⟨by rfl, ?_⟩) (by assumption) ?_
            rotate_left
            · intro w hSw
              try dsimp only at hSw
              clear hSw
              go_simp
              try (with_reducible rfl)
            try simp only [Act.put, List.setIfInBounds_toArray, List.set_cons_zero, List.set_cons_succ]
            refine wpAnyH_take (i := 17) (oi := { dst := some 88, op := Op.binOp BinOp.neq 27 (Operand.tmp 87) (Operand.const (Value.int IntKind.i64 0)) 27, type := 4, pos := "law.go:151", after := #[{ on := 16, ground := Ground.data }, { on := 15, ground := Ground.guard }], guard := some (15, true) }) (v := ?_) rfl (by kernel_rfl) (by kernel_rfl) (by kernel_rfl) (fun _ _ _ h => h) (Or.inl ⟨by rfl, ?_⟩) (by assumption) ?_
            rotate_left
            · intro w hSw
              try dsimp only at hSw
              clear hSw
              go_simp
              try (with_reducible rfl)
            try simp only [Act.put, List.setIfInBounds_toArray, List.set_cons_zero, List.set_cons_succ]
            refine wpAnyH_take (i := 18) (oi := { dst := some 89, op := Op.move (Operand.tmp 88), type := 4, pos := "law.go:151", after := #[{ on := 17, ground := Ground.data }, { on := 15, ground := Ground.chain }, { on := 15, ground := Ground.guard }], guard := some (15, true) }) (v := ?_) rfl (by kernel_rfl) (by kernel_rfl) (by kernel_rfl) (fun _ _ _ h => h) (Or.inl ⟨by rfl, ?_⟩) (by assumption) ?_
            rotate_left
            · intro w hSw
              try dsimp only at hSw
              clear hSw
              go_simp
              try (with_reducible rfl)
            try simp only [Act.put, List.setIfInBounds_toArray, List.set_cons_zero, List.set_cons_succ]
            refine wpAnyH_take (i := 19) (oi := { dst := some 90, op := Op.move (Operand.tmp 16), type := 27, pos := "law.go:151", after := #[{ on := 18, ground := Ground.guard }], guard := some (18, false) }) (v := ?_) rfl (by kernel_rfl) (by kernel_rfl) (by kernel_rfl) (fun _ _ _ h => h) (Or.inl ⟨by rfl, ?_⟩) (by assumption) ?_
            rotate_left
            · intro w hSw
              try dsimp only at hSw
              clear hSw
              go_simp
              try (with_reducible rfl)
            try simp only [Act.put, List.setIfInBounds_toArray, List.set_cons_zero, List.set_cons_succ]
            refine wpAnyH_take (i := 20) (oi := { dst := some 91, op := Op.binOp BinOp.neq 27 (Operand.tmp 90) (Operand.const (Value.int IntKind.i64 0)) 27, type := 4, pos := "law.go:151", after := #[{ on := 19, ground := Ground.data }, { on := 18, ground := Ground.guard }], guard := some (18, false) }) (v := ?_) rfl (by kernel_rfl) (by kernel_rfl) (by kernel_rfl) (fun _ _ _ h => h) (Or.inl ⟨by rfl, ?_⟩) (by assumption) ?_
            rotate_left
            · intro w hSw
              try dsimp only at hSw
              clear hSw
              go_simp
              try (with_reducible rfl)
            try simp only [Act.put, List.setIfInBounds_toArray, List.set_cons_zero, List.set_cons_succ]
            refine wpAnyH_take (i := 21) (oi := { dst := some 92, op := Op.pick (Operand.tmp 89) (Operand.const (Value.bool true)) (Operand.tmp 91), type := 4, pos := "law.go:151", after := #[{ on := 18, ground := Ground.data }, { on := 20, ground := Ground.data }, { on := 15, ground := Ground.guard }], guard := some (15, true) }) (v := ?_) rfl (by kernel_rfl) (by kernel_rfl) (by kernel_rfl) (fun _ _ _ h => h) (Or.inl ⟨by rfl, ?_⟩) (by assumption) ?_
            rotate_left
            · intro w hSw
              try dsimp only at hSw
              clear hSw
              go_simp
              try (with_reducible rfl)
            try simp only [Act.put, List.setIfInBounds_toArray, List.set_cons_zero, List.set_cons_succ]
            refine wpAnyH_take (i := 22) (oi := { dst := some 93, op := Op.move (Operand.tmp 92), type := 4, pos := "law.go:151", after := #[{ on := 21, ground := Ground.data }, { on := 18, ground := Ground.chain }, { on := 15, ground := Ground.guard }], guard := some (15, true) }) (v := ?_) rfl (by kernel_rfl) (by kernel_rfl) (by kernel_rfl) (fun _ _ _ h => h) (Or.inl ⟨by rfl, ?_⟩) (by assumption) ?_
            rotate_left
            · intro w hSw
              try dsimp only at hSw
              clear hSw
              go_simp
              try (with_reducible rfl)
            try simp only [Act.put, List.setIfInBounds_toArray, List.set_cons_zero, List.set_cons_succ]
            refine wpAnyH_take (i := 23) (oi := { dst := some 94, op := Op.move (Operand.tmp 13), type := 23, pos := "law.go:151", after := #[{ on := 22, ground := Ground.guard }], guard := some (22, false) }) (v := ?_) rfl (by kernel_rfl) (by kernel_rfl) (by kernel_rfl) (fun _ _ _ h => h) (Or.inl ⟨by rfl, ?_⟩) (by assumption) ?_
            rotate_left
            · intro w hSw
              try dsimp only at hSw
              clear hSw
              go_simp
              try (with_reducible rfl)
            try simp only [Act.put, List.setIfInBounds_toArray, List.set_cons_zero, List.set_cons_succ]
            refine wpAnyH_take (i := 24) (oi := { dst := some 95, op := Op.move (Operand.tmp 15), type := 23, pos := "law.go:151", after := #[{ on := 22, ground := Ground.guard }], guard := some (22, false) }) (v := ?_) rfl (by kernel_rfl) (by kernel_rfl) (by kernel_rfl) (fun _ _ _ h => h) (Or.inl ⟨by rfl, ?_⟩) (by assumption) ?_
            rotate_left
            · intro w hSw
              try dsimp only at hSw
              clear hSw
              go_simp
              try (with_reducible rfl)
            try simp only [Act.put, List.setIfInBounds_toArray, List.set_cons_zero, List.set_cons_succ]
            refine wpAnyH_take (i := 26) (oi := { dst := some 97, op := Op.load 38 (Operand.tmp 6), type := 38, pos := "law.go:151", after := #[{ on := 22, ground := Ground.guard }], guard := some (22, false) }) (v := ?_) rfl (by kernel_rfl) (by kernel_rfl) (by kernel_rfl) (fun _ _ _ h => h) (Or.inl ⟨by rfl, ?_⟩) (by assumption) ?_
            rotate_left
            · intro u hSu
              obtain ⟨s0, s1, s2, s3⟩ := hSu
              have c2_0 : u.cell? ⟨w.heap.size + 1 + 1, 0, none⟩ = some (.int .u8 (y1.n : Int)) := (cell_of_row _ _ _ _ _ _ s2).trans rfl
              have c2_1 : u.cell? ⟨w.heap.size + 1 + 1, 1, none⟩ = some (.int .u32 (y1.e : Int)) := (cell_of_row _ _ _ _ _ _ s2).trans rfl
              have c2_2 : u.cell? ⟨w.heap.size + 1 + 1, 2, none⟩ = some (.int .u32 (y1.l : Int)) := (cell_of_row _ _ _ _ _ _ s2).trans rfl
              have c2_3 : u.cell? ⟨w.heap.size + 1 + 1, 3, none⟩ = some (.int .u32 (y1.s : Int)) := (cell_of_row _ _ _ _ _ _ s2).trans rfl
              have c2_4 : u.cell? ⟨w.heap.size + 1 + 1, 4, none⟩ = some (.int .u32 (y1.a : Int)) := (cell_of_row _ _ _ _ _ _ s2).trans rfl
              have c2_5 : u.cell? ⟨w.heap.size + 1 + 1, 5, none⟩ = some (.bool y1.p) := (cell_of_row _ _ _ _ _ _ s2).trans rfl
              have c2_6 : u.cell? ⟨w.heap.size + 1 + 1, 6, none⟩ = some (.slice A3 K3 C3) := (cell_of_row _ _ _ _ _ _ s2).trans rfl
              clear s0 s1 s2 s3
              go_simp
              try (with_reducible rfl)
            try simp only [Act.put, List.setIfInBounds_toArray, List.set_cons_zero, List.set_cons_succ]
            refine wpAnyH_take (i := 27) (oi := { dst := some 98, op := Op.load 38 (Operand.tmp 7), type := 38, pos := "law.go:151", after := #[{ on := 22, ground := Ground.guard }], guard := some (22, false) }) (v := ?_) rfl (by kernel_rfl) (by kernel_rfl) (by kernel_rfl) (fun _ _ _ h => h) (Or.inl ⟨by rfl, ?_⟩) (by assumption) ?_
            rotate_left
            · intro u hSu
              obtain ⟨s0, s1, s2, s3⟩ := hSu
              have c3_0 : u.cell? ⟨w.heap.size + 1 + 1 + 1, 0, none⟩ = some (.int .u8 (y2.n : Int)) := (cell_of_row _ _ _ _ _ _ s3).trans rfl
              have c3_1 : u.cell? ⟨w.heap.size + 1 + 1 + 1, 1, none⟩ = some (.int .u32 (y2.e : Int)) := (cell_of_row _ _ _ _ _ _ s3).trans rfl
              have c3_2 : u.cell? ⟨w.heap.size + 1 + 1 + 1, 2, none⟩ = some (.int .u32 (y2.l : Int)) := (cell_of_row _ _ _ _ _ _ s3).trans rfl
              have c3_3 : u.cell? ⟨w.heap.size + 1 + 1 + 1, 3, none⟩ = some (.int .u32 (y2.s : Int)) := (cell_of_row _ _ _ _ _ _ s3).trans rfl
              have c3_4 : u.cell? ⟨w.heap.size + 1 + 1 + 1, 4, none⟩ = some (.int .u32 (y2.a : Int)) := (cell_of_row _ _ _ _ _ _ s3).trans rfl
              have c3_5 : u.cell? ⟨w.heap.size + 1 + 1 + 1, 5, none⟩ = some (.bool y2.p) := (cell_of_row _ _ _ _ _ _ s3).trans rfl
              have c3_6 : u.cell? ⟨w.heap.size + 1 + 1 + 1, 6, none⟩ = some (.slice A4 K4 C4) := (cell_of_row _ _ _ _ _ _ s3).trans rfl
              clear s0 s1 s2 s3
              go_simp
              try (with_reducible rfl)
            try simp only [Act.put, List.setIfInBounds_toArray, List.set_cons_zero, List.set_cons_succ]
            refine wpAnyH_ready (rs := [25]) (by kernel_rfl) (by simp) ?_
            refine AllReadyH.cons (o := { dst := some 96, op := Op.call { callee := Callee.value (Operand.func 12), args := #[Operand.tmp 94, Operand.tmp 95], argTypes := #[23, 23] }, type := 4, pos := "law.go:151", after := #[{ on := 23, ground := Ground.data }, { on := 24, ground := Ground.data }, { on := 22, ground := Ground.chain }, { on := 22, ground := Ground.guard }], guard := some (22, false) }) rfl (fun K hK => ?_) AllReadyH.nil
            go_simp
            refine (same_any kv3 kv4 (Knot.knot y1.enc) (Knot.knot y2.enc) _ (HO3.out.below HBK.out) (HO4.out.below HBK.out)).mono ?_
            rintro e w' ⟨rfl, rfl⟩
            rw [HEQ2.out]
            go_wp2_with fail
            refine hK.out _ _ ?_ (fun hHeld => ?_)
            · exact hHeld
            clear hK K
            try simp only [Act.put, List.setIfInBounds_toArray, List.set_cons_zero, List.set_cons_succ]
            refine wpAnyH_ready (rs := [28]) (by kernel_rfl) (by simp) ?_
            refine AllReadyH.cons (o := { dst := some 99, op := Op.call { callee := Callee.value (Operand.func 17), args := #[Operand.tmp 97, Operand.tmp 98], argTypes := #[38, 38] }, type := 4, pos := "law.go:151", after := #[{ on := 26, ground := Ground.data }, { on := 27, ground := Ground.data }, { on := 25, ground := Ground.chain }, { on := 22, ground := Ground.guard }], guard := some (22, false) }) rfl (fun K hK => ?_) AllReadyH.nil
            go_simp
            refine (samepacket_any y1 y2 A3 A4 C3 C4 K3 K4 _ (HD3.out.below HBK.out) (HD4.out.below HBK.out)).mono ?_
            rintro e wl ⟨rfl, hbl⟩
            have HBL := hid (show Below wk.heap.size wk wl from ⟨hbl.os, hbl.tape, hbl.output, hbl.size, hbl.block⟩)
            have hsl : w0.heap.size ≤ wk.heap.size := HBK.out.size
            clear hbl
            go_wp2_with fail
            refine hK.out _ _ ?_ (fun hHeld => ?_)
            · obtain ⟨s0, s1, s2, s3⟩ := hHeld
              exact ⟨(HBL.out.block _ (by omega)).trans s0, (HBL.out.block _ (by omega)).trans s1, (HBL.out.block _ (by omega)).trans s2, (HBL.out.block _ (by omega)).trans s3⟩
            clear hK K
            try simp only [Act.put, List.setIfInBounds_toArray, List.set_cons_zero, List.set_cons_succ]
            refine wpAnyH_take (i := 29) (oi := { dst := some 100, op := Op.binOp BinOp.eql 4 (Operand.tmp 96) (Operand.tmp 99) 4, type := 4, pos := "law.go:151", after := #[{ on := 25, ground := Ground.data }, { on := 28, ground := Ground.data }, { on := 22, ground := Ground.guard }], guard := some (22, false) }) (v := ?_) rfl (by kernel_rfl) (by kernel_rfl) (by kernel_rfl) (fun _ _ _ h => h) (Or.inl ⟨by rfl, ?_⟩) (by assumption) ?_
            rotate_left
            · intro w hSw
              try dsimp only at hSw
              clear hSw
              go_simp
              try (with_reducible rfl)
            try simp only [Act.put, List.setIfInBounds_toArray, List.set_cons_zero, List.set_cons_succ]
            refine wpAnyH_take (i := 30) (oi := { dst := some 101, op := Op.pick (Operand.tmp 93) (Operand.const (Value.bool true)) (Operand.tmp 100), type := 4, pos := "law.go:151", after := #[{ on := 22, ground := Ground.data }, { on := 29, ground := Ground.data }, { on := 15, ground := Ground.guard }], guard := some (15, true) }) (v := ?_) rfl (by kernel_rfl) (by kernel_rfl) (by kernel_rfl) (fun _ _ _ h => h) (Or.inl ⟨by rfl, ?_⟩) (by assumption) ?_
            rotate_left
            · intro w hSw
              try dsimp only at hSw
              clear hSw
              go_simp
              try (with_reducible rfl)
            try simp only [Act.put, List.setIfInBounds_toArray, List.set_cons_zero, List.set_cons_succ]
            refine wpAnyH_take (i := 31) (oi := { dst := some 102, op := Op.pick (Operand.tmp 86) (Operand.tmp 101) (Operand.const (Value.bool false)), type := 4, pos := "law.go:151", after := #[{ on := 15, ground := Ground.data }, { on := 30, ground := Ground.data }], guard := none }) (v := ?_) rfl (by kernel_rfl) (by kernel_rfl) (by kernel_rfl) (fun _ _ _ h => h) (Or.inl ⟨by rfl, ?_⟩) (by assumption) ?_
            rotate_left
            · intro w hSw
              try dsimp only at hSw
              clear hSw
              go_simp
              try (with_reducible rfl)
            try simp only [Act.put, List.setIfInBounds_toArray, List.set_cons_zero, List.set_cons_succ]
            refine wpAnyH_take (i := 32) (oi := { dst := some 8, op := Op.assign (Operand.tmp 102), type := 4, pos := "law.go:151", after := #[{ on := 31, ground := Ground.data }, { on := 28, ground := Ground.chain }, { on := 0, ground := Ground.phase }, { on := 1, ground := Ground.phase }, { on := 2, ground := Ground.phase }, { on := 3, ground := Ground.phase }, { on := 4, ground := Ground.phase }, { on := 5, ground := Ground.phase }, { on := 6, ground := Ground.phase }, { on := 7, ground := Ground.phase }, { on := 8, ground := Ground.phase }, { on := 9, ground := Ground.phase }, { on := 10, ground := Ground.phase }, { on := 11, ground := Ground.phase }, { on := 12, ground := Ground.phase }, { on := 13, ground := Ground.phase }, { on := 14, ground := Ground.phase }, { on := 15, ground := Ground.phase }, { on := 16, ground := Ground.phase }, { on := 17, ground := Ground.phase }, { on := 18, ground := Ground.phase }, { on := 19, ground := Ground.phase }, { on := 20, ground := Ground.phase }, { on := 21, ground := Ground.phase }, { on := 22, ground := Ground.phase }, { on := 23, ground := Ground.phase }, { on := 24, ground := Ground.phase }, { on := 25, ground := Ground.phase }, { on := 26, ground := Ground.phase }, { on := 27, ground := Ground.phase }, { on := 28, ground := Ground.phase }, { on := 29, ground := Ground.phase }, { on := 30, ground := Ground.phase }, { on := 31, ground := Ground.phase }], guard := none }) (v := ?_) rfl (by kernel_rfl) (by kernel_rfl) (by kernel_rfl) (fun _ _ _ h => h) (Or.inl ⟨by rfl, ?_⟩) (by assumption) ?_
            rotate_left
            · intro w hSw
              try dsimp only at hSw
              clear hSw
              go_simp
              try (with_reducible rfl)
            try simp only [Act.put, List.setIfInBounds_toArray, List.set_cons_zero, List.set_cons_succ]
            refine wpAnyH_done (by kernel_rfl) ?_ _
            refine NoPanic.normal ?_
            go_wp2_with fail
            go_ret
            exact ⟨rfl, ((HB0.out.trans (HBK.out.mono (by omega))).trans (HBL.out.mono (by omega)))⟩
          · have z1 : ((ec1 : Int) != 0) = false := by rw [bne_eq_false_iff_eq]; omega
            have z2 : ((ec2 : Int) != 0) = false := by rw [bne_eq_false_iff_eq]; omega
            have z3 : ((ec3 : Int) != 0) = false := by rw [bne_eq_false_iff_eq]; omega
            have z4 : ((ec4 : Int) != 0) = true := by rw [bne_iff_ne]; omega
            have q1 := HK1.out.resolve_right (fun h => by omega)
            have q2 := HK2.out.resolve_right (fun h => by omega)
            have HO1 := hid ((HW10.out _ (HW1f.out _ (HW1e.out _ q1.2.2))))
            have HO2 := hid ((HW20.out _ (HW2f.out _ q2.2.2)))
            have HEQ1 := hid (knots_sameN x1 x2 ⟨HX1.out, q1.1⟩ ⟨HX2.out, q2.1⟩)
            clear q1 q2
            clear t1 t2 t3 t4
            go_wp2_with fail
            refine wp_region_noPanic ?_
            refine wp_region_held_drew (S := (fun w' => w'.heap[w.heap.size]? = some (.cells #[.int .u8 (x1.k : Int), .int .u8 (x1.n : Int), .int .u32 (x1.e : Int), .int .u32 (x1.l : Int), .int .u32 (x1.t : Int), .int .u32 (x1.g : Int), .int .u32 (x1.j : Int), .int .u32 (x1.v : Int), .int .u8 (x1.r : Int), .int .i64 x1.c, .int .u32 (x1.f : Int), .int .u32 (x1.o : Int), .slice A1 K1 C1] 25 (0, 0)) ∧ w'.heap[w.heap.size + 1]? = some (.cells #[.int .u8 (x2.k : Int), .int .u8 (x2.n : Int), .int .u32 (x2.e : Int), .int .u32 (x2.l : Int), .int .u32 (x2.t : Int), .int .u32 (x2.g : Int), .int .u32 (x2.j : Int), .int .u32 (x2.v : Int), .int .u8 (x2.r : Int), .int .i64 x2.c, .int .u32 (x2.f : Int), .int .u32 (x2.o : Int), .slice A2 K2 C2] 25 (0, 0)) ∧ w'.heap[w.heap.size + 1 + 1]? = some (.cells #[.int .u8 (y1.n : Int), .int .u32 (y1.e : Int), .int .u32 (y1.l : Int), .int .u32 (y1.s : Int), .int .u32 (y1.a : Int), .bool y1.p, .slice A3 K3 C3] 38 (0, 0)) ∧ w'.heap[w.heap.size + 1 + 1 + 1]? = some (.cells #[.int .u8 (y2.n : Int), .int .u32 (y2.e : Int), .int .u32 (y2.l : Int), .int .u32 (y2.s : Int), .int .u32 (y2.a : Int), .bool y2.p, .slice A4 K4 C4] 38 (0, 0)))) (by kernel_rfl) ?_ (fun hHeld => ?_)
            · exact ⟨HR0.out, HR1.out, HR2.out, HR3.out⟩
            refine wpAnyH_take (i := 0) (oi := { dst := some 71, op := Op.move (Operand.tmp 10), type := 27, pos := "law.go:151", after := #[], guard := none }) (v := ?_) rfl (by kernel_rfl) (by kernel_rfl) (by kernel_rfl) (fun _ _ _ h => h) (Or.inl ⟨by rfl, ?_⟩) (by assumption) ?_
            rotate_left
            · intro w hSw
              try dsimp only at hSw
              clear hSw
              go_simp
              try (with_reducible rfl)
            try simp only [Act.put, List.setIfInBounds_toArray, List.set_cons_zero, List.set_cons_succ]
            refine wpAnyH_take (i := 1) (oi := { dst := some 72, op := Op.binOp BinOp.neq 27 (Operand.tmp 71) (Operand.const (Value.int IntKind.i64 0)) 27, type := 4, pos := "law.go:151", after := #[{ on := 0, ground := Ground.data }], guard := none }) (v := ?_) rfl (by kernel_rfl) (by kernel_rfl) (by kernel_rfl) (fun _ _ _ h => h) (Or.inl ⟨by rfl, ?_⟩) (by assumption) ?_
            rotate_left
            · intro w hSw
              try dsimp only at hSw
              clear hSw
              go_simp
              try (with_reducible rfl)
            try simp only [Act.put, List.setIfInBounds_toArray, List.set_cons_zero, List.set_cons_succ]
            refine wpAnyH_take (i := 2) (oi := { dst := some 73, op := Op.move (Operand.tmp 72), type := 4, pos := "law.go:151", after := #[{ on := 1, ground := Ground.data }], guard := none }) (v := ?_) rfl (by kernel_rfl) (by kernel_rfl) (by kernel_rfl) (fun _ _ _ h => h) (Or.inl ⟨by rfl, ?_⟩) (by assumption) ?_
            rotate_left
            · intro w hSw
              try dsimp only at hSw
              clear hSw
              go_simp
              try (with_reducible rfl)
            try simp only [Act.put, List.setIfInBounds_toArray, List.set_cons_zero, List.set_cons_succ]
            refine wpAnyH_take (i := 3) (oi := { dst := some 74, op := Op.move (Operand.tmp 12), type := 27, pos := "law.go:151", after := #[{ on := 2, ground := Ground.guard }], guard := some (2, false) }) (v := ?_) rfl (by kernel_rfl) (by kernel_rfl) (by kernel_rfl) (fun _ _ _ h => h) (Or.inl ⟨by rfl, ?_⟩) (by assumption) ?_
            rotate_left
            · intro w hSw
              try dsimp only at hSw
              clear hSw
              go_simp
              try (with_reducible rfl)
            try simp only [Act.put, List.setIfInBounds_toArray, List.set_cons_zero, List.set_cons_succ]
            refine wpAnyH_take (i := 4) (oi := { dst := some 75, op := Op.binOp BinOp.neq 27 (Operand.tmp 74) (Operand.const (Value.int IntKind.i64 0)) 27, type := 4, pos := "law.go:151", after := #[{ on := 3, ground := Ground.data }, { on := 2, ground := Ground.guard }], guard := some (2, false) }) (v := ?_) rfl (by kernel_rfl) (by kernel_rfl) (by kernel_rfl) (fun _ _ _ h => h) (Or.inl ⟨by rfl, ?_⟩) (by assumption) ?_
            rotate_left
            · intro w hSw
              try dsimp only at hSw
              clear hSw
              go_simp
              try (with_reducible rfl)
            try simp only [Act.put, List.setIfInBounds_toArray, List.set_cons_zero, List.set_cons_succ]
            refine wpAnyH_take (i := 5) (oi := { dst := some 76, op := Op.pick (Operand.tmp 73) (Operand.const (Value.bool true)) (Operand.tmp 75), type := 4, pos := "law.go:151", after := #[{ on := 2, ground := Ground.data }, { on := 4, ground := Ground.data }], guard := none }) (v := ?_) rfl (by kernel_rfl) (by kernel_rfl) (by kernel_rfl) (fun _ _ _ h => h) (Or.inl ⟨by rfl, ?_⟩) (by assumption) ?_
            rotate_left
            · intro w hSw
              try dsimp only at hSw
              clear hSw
              go_simp
              try (with_reducible rfl)
            try simp only [Act.put, List.setIfInBounds_toArray, List.set_cons_zero, List.set_cons_succ]
            refine wpAnyH_take (i := 6) (oi := { dst := some 77, op := Op.move (Operand.tmp 76), type := 4, pos := "law.go:151", after := #[{ on := 5, ground := Ground.data }, { on := 2, ground := Ground.chain }], guard := none }) (v := ?_) rfl (by kernel_rfl) (by kernel_rfl) (by kernel_rfl) (fun _ _ _ h => h) (Or.inl ⟨by rfl, ?_⟩) (by assumption) ?_
            rotate_left
            · intro w hSw
              try dsimp only at hSw
              clear hSw
              go_simp
              try (with_reducible rfl)
            try simp only [Act.put, List.setIfInBounds_toArray, List.set_cons_zero, List.set_cons_succ]
            refine wpAnyH_take (i := 7) (oi := { dst := some 78, op := Op.move (Operand.tmp 9), type := 23, pos := "law.go:151", after := #[{ on := 6, ground := Ground.guard }], guard := some (6, false) }) (v := ?_) rfl (by kernel_rfl) (by kernel_rfl) (by kernel_rfl) (fun _ _ _ h => h) (Or.inl ⟨by rfl, ?_⟩) (by assumption) ?_
            rotate_left
            · intro w hSw
              try dsimp only at hSw
              clear hSw
              go_simp
              try (with_reducible rfl)
            try simp only [Act.put, List.setIfInBounds_toArray, List.set_cons_zero, List.set_cons_succ]
            refine wpAnyH_take (i := 8) (oi := { dst := some 79, op := Op.move (Operand.tmp 11), type := 23, pos := "law.go:151", after := #[{ on := 6, ground := Ground.guard }], guard := some (6, false) }) (v := ?_) rfl (by kernel_rfl) (by kernel_rfl) (by kernel_rfl) (fun _ _ _ h => h) (Or.inl ⟨by rfl, ?_⟩) (by assumption) ?_
            rotate_left
            · intro w hSw
              try dsimp only at hSw
              clear hSw
              go_simp
              try (with_reducible rfl)
            try simp only [Act.put, List.setIfInBounds_toArray, List.set_cons_zero, List.set_cons_succ]
            refine wpAnyH_take (i := 10) (oi := { dst := some 81, op := Op.load 25 (Operand.tmp 4), type := 25, pos := "law.go:151", after := #[{ on := 6, ground := Ground.guard }], guard := some (6, false) }) (v := ?_) rfl (by kernel_rfl) (by kernel_rfl) (by kernel_rfl) (fun _ _ _ h => h) (Or.inl ⟨by rfl, ?_⟩) (by assumption) ?_
            rotate_left
            · intro u hSu
              obtain ⟨s0, s1, s2, s3⟩ := hSu
              have c0_0 : u.cell? ⟨w.heap.size, 0, none⟩ = some (.int .u8 (x1.k : Int)) := (cell_of_row _ _ _ _ _ _ s0).trans rfl
              have c0_1 : u.cell? ⟨w.heap.size, 1, none⟩ = some (.int .u8 (x1.n : Int)) := (cell_of_row _ _ _ _ _ _ s0).trans rfl
              have c0_2 : u.cell? ⟨w.heap.size, 2, none⟩ = some (.int .u32 (x1.e : Int)) := (cell_of_row _ _ _ _ _ _ s0).trans rfl
              have c0_3 : u.cell? ⟨w.heap.size, 3, none⟩ = some (.int .u32 (x1.l : Int)) := (cell_of_row _ _ _ _ _ _ s0).trans rfl
              have c0_4 : u.cell? ⟨w.heap.size, 4, none⟩ = some (.int .u32 (x1.t : Int)) := (cell_of_row _ _ _ _ _ _ s0).trans rfl
              have c0_5 : u.cell? ⟨w.heap.size, 5, none⟩ = some (.int .u32 (x1.g : Int)) := (cell_of_row _ _ _ _ _ _ s0).trans rfl
              have c0_6 : u.cell? ⟨w.heap.size, 6, none⟩ = some (.int .u32 (x1.j : Int)) := (cell_of_row _ _ _ _ _ _ s0).trans rfl
              have c0_7 : u.cell? ⟨w.heap.size, 7, none⟩ = some (.int .u32 (x1.v : Int)) := (cell_of_row _ _ _ _ _ _ s0).trans rfl
              have c0_8 : u.cell? ⟨w.heap.size, 8, none⟩ = some (.int .u8 (x1.r : Int)) := (cell_of_row _ _ _ _ _ _ s0).trans rfl
              have c0_9 : u.cell? ⟨w.heap.size, 9, none⟩ = some (.int .i64 x1.c) := (cell_of_row _ _ _ _ _ _ s0).trans rfl
              have c0_10 : u.cell? ⟨w.heap.size, 10, none⟩ = some (.int .u32 (x1.f : Int)) := (cell_of_row _ _ _ _ _ _ s0).trans rfl
              have c0_11 : u.cell? ⟨w.heap.size, 11, none⟩ = some (.int .u32 (x1.o : Int)) := (cell_of_row _ _ _ _ _ _ s0).trans rfl
              have c0_12 : u.cell? ⟨w.heap.size, 12, none⟩ = some (.slice A1 K1 C1) := (cell_of_row _ _ _ _ _ _ s0).trans rfl
              clear s0 s1 s2 s3
              go_simp
              try (with_reducible rfl)
            try simp only [Act.put, List.setIfInBounds_toArray, List.set_cons_zero, List.set_cons_succ]
            refine wpAnyH_take (i := 11) (oi := { dst := some 82, op := Op.load 25 (Operand.tmp 5), type := 25, pos := "law.go:151", after := #[{ on := 6, ground := Ground.guard }], guard := some (6, false) }) (v := ?_) rfl (by kernel_rfl) (by kernel_rfl) (by kernel_rfl) (fun _ _ _ h => h) (Or.inl ⟨by rfl, ?_⟩) (by assumption) ?_
            rotate_left
            · intro u hSu
              obtain ⟨s0, s1, s2, s3⟩ := hSu
              have c1_0 : u.cell? ⟨w.heap.size + 1, 0, none⟩ = some (.int .u8 (x2.k : Int)) := (cell_of_row _ _ _ _ _ _ s1).trans rfl
              have c1_1 : u.cell? ⟨w.heap.size + 1, 1, none⟩ = some (.int .u8 (x2.n : Int)) := (cell_of_row _ _ _ _ _ _ s1).trans rfl
              have c1_2 : u.cell? ⟨w.heap.size + 1, 2, none⟩ = some (.int .u32 (x2.e : Int)) := (cell_of_row _ _ _ _ _ _ s1).trans rfl
              have c1_3 : u.cell? ⟨w.heap.size + 1, 3, none⟩ = some (.int .u32 (x2.l : Int)) := (cell_of_row _ _ _ _ _ _ s1).trans rfl
              have c1_4 : u.cell? ⟨w.heap.size + 1, 4, none⟩ = some (.int .u32 (x2.t : Int)) := (cell_of_row _ _ _ _ _ _ s1).trans rfl
              have c1_5 : u.cell? ⟨w.heap.size + 1, 5, none⟩ = some (.int .u32 (x2.g : Int)) := (cell_of_row _ _ _ _ _ _ s1).trans rfl
              have c1_6 : u.cell? ⟨w.heap.size + 1, 6, none⟩ = some (.int .u32 (x2.j : Int)) := (cell_of_row _ _ _ _ _ _ s1).trans rfl
              have c1_7 : u.cell? ⟨w.heap.size + 1, 7, none⟩ = some (.int .u32 (x2.v : Int)) := (cell_of_row _ _ _ _ _ _ s1).trans rfl
              have c1_8 : u.cell? ⟨w.heap.size + 1, 8, none⟩ = some (.int .u8 (x2.r : Int)) := (cell_of_row _ _ _ _ _ _ s1).trans rfl
              have c1_9 : u.cell? ⟨w.heap.size + 1, 9, none⟩ = some (.int .i64 x2.c) := (cell_of_row _ _ _ _ _ _ s1).trans rfl
              have c1_10 : u.cell? ⟨w.heap.size + 1, 10, none⟩ = some (.int .u32 (x2.f : Int)) := (cell_of_row _ _ _ _ _ _ s1).trans rfl
              have c1_11 : u.cell? ⟨w.heap.size + 1, 11, none⟩ = some (.int .u32 (x2.o : Int)) := (cell_of_row _ _ _ _ _ _ s1).trans rfl
              have c1_12 : u.cell? ⟨w.heap.size + 1, 12, none⟩ = some (.slice A2 K2 C2) := (cell_of_row _ _ _ _ _ _ s1).trans rfl
              clear s0 s1 s2 s3
              go_simp
              try (with_reducible rfl)
            try simp only [Act.put, List.setIfInBounds_toArray, List.set_cons_zero, List.set_cons_succ]
            refine wpAnyH_ready (rs := [9]) (by kernel_rfl) (by simp) ?_
            refine AllReadyH.cons (o := { dst := some 80, op := Op.call { callee := Callee.value (Operand.func 12), args := #[Operand.tmp 78, Operand.tmp 79], argTypes := #[23, 23] }, type := 4, pos := "law.go:151", after := #[{ on := 7, ground := Ground.data }, { on := 8, ground := Ground.data }, { on := 6, ground := Ground.chain }, { on := 6, ground := Ground.guard }], guard := some (6, false) }) rfl (fun K hK => ?_) AllReadyH.nil
            go_simp
            refine (same_any kv1 kv2 (Knot.knot x1.enc) (Knot.knot x2.enc) _ (show Rd w0.drew kv1 _ from HO1.out) (show Rd w0.drew kv2 _ from HO2.out)).mono ?_
            rintro e w' ⟨rfl, rfl⟩
            rw [HEQ1.out]
            go_wp2_with fail
            refine hK.out _ _ ?_ (fun hHeld => ?_)
            · exact hHeld
            clear hK K
            try simp only [Act.put, List.setIfInBounds_toArray, List.set_cons_zero, List.set_cons_succ]
            refine wpAnyH_ready (rs := [12]) (by kernel_rfl) (by simp) ?_
            refine AllReadyH.cons (o := { dst := some 83, op := Op.call { callee := Callee.value (Operand.func 13), args := #[Operand.tmp 81, Operand.tmp 82], argTypes := #[25, 25] }, type := 4, pos := "law.go:151", after := #[{ on := 10, ground := Ground.data }, { on := 11, ground := Ground.data }, { on := 9, ground := Ground.chain }, { on := 6, ground := Ground.guard }], guard := some (6, false) }) rfl (fun K hK => ?_) AllReadyH.nil
            go_simp
            refine (samenote_any x1 x2 A1 A2 C1 C2 K1 K2 _ (show Rd w0.drew _ _ from HD1.out) (show Rd w0.drew _ _ from HD2.out)).mono ?_
            rintro e wk ⟨rfl, hbk⟩
            have HBK := hid (show Below w0.heap.size w0 wk from ⟨hbk.os, hbk.tape, hbk.output, hbk.size, hbk.block⟩)
            clear hbk
            go_wp2_with fail
            refine hK.out _ _ ?_ (fun hHeld => ?_)
            · exact ⟨(HBK.out.block _ (by omega)).trans HR0.out, (HBK.out.block _ (by omega)).trans HR1.out, (HBK.out.block _ (by omega)).trans HR2.out, (HBK.out.block _ (by omega)).trans HR3.out⟩
            clear hK K
            try simp only [Act.put, List.setIfInBounds_toArray, List.set_cons_zero, List.set_cons_succ]
            refine wpAnyH_take (i := 13) (oi := { dst := some 84, op := Op.binOp BinOp.eql 4 (Operand.tmp 80) (Operand.tmp 83) 4, type := 4, pos := "law.go:151", after := #[{ on := 9, ground := Ground.data }, { on := 12, ground := Ground.data }, { on := 6, ground := Ground.guard }], guard := some (6, false) }) (v := ?_) rfl (by kernel_rfl) (by kernel_rfl) (by kernel_rfl) (fun _ _ _ h => h) (Or.inl ⟨by rfl, ?_⟩) (by assumption) ?_
            rotate_left
            · intro w hSw
              try dsimp only at hSw
              clear hSw
              go_simp
              try (with_reducible rfl)
            try simp only [Act.put, List.setIfInBounds_toArray, List.set_cons_zero, List.set_cons_succ]
            refine wpAnyH_take (i := 14) (oi := { dst := some 85, op := Op.pick (Operand.tmp 77) (Operand.const (Value.bool true)) (Operand.tmp 84), type := 4, pos := "law.go:151", after := #[{ on := 6, ground := Ground.data }, { on := 13, ground := Ground.data }], guard := none }) (v := ?_) rfl (by kernel_rfl) (by kernel_rfl) (by kernel_rfl) (fun _ _ _ h => h) (Or.inl ⟨by rfl, ?_⟩) (by assumption) ?_
            rotate_left
            · intro w hSw
              try dsimp only at hSw
              clear hSw
              go_simp
              try (with_reducible rfl)
            try simp only [Act.put, List.setIfInBounds_toArray, List.set_cons_zero, List.set_cons_succ]
            refine wpAnyH_take (i := 15) (oi := { dst := some 86, op := Op.move (Operand.tmp 85), type := 4, pos := "law.go:151", after := #[{ on := 14, ground := Ground.data }, { on := 12, ground := Ground.chain }], guard := none }) (v := ?_) rfl (by kernel_rfl) (by kernel_rfl) (by kernel_rfl) (fun _ _ _ h => h) (Or.inl ⟨by rfl, ?_⟩) (by assumption) ?_
            rotate_left
            · intro w hSw
              try dsimp only at hSw
              clear hSw
              go_simp
              try (with_reducible rfl)
            try simp only [Act.put, List.setIfInBounds_toArray, List.set_cons_zero, List.set_cons_succ]
            refine wpAnyH_take (i := 16) (oi := { dst := some 87, op := Op.move (Operand.tmp 14), type := 27, pos := "law.go:151", after := #[{ on := 15, ground := Ground.guard }], guard := some (15, true) }) (v := ?_) rfl (by kernel_rfl) (by kernel_rfl) (by kernel_rfl) (fun _ _ _ h => h) (Or.inl ⟨by rfl, ?_⟩) (by assumption) ?_
            rotate_left
            · intro w hSw
              try dsimp only at hSw
              clear hSw
              go_simp
              try (with_reducible rfl)
            try simp only [Act.put, List.setIfInBounds_toArray, List.set_cons_zero, List.set_cons_succ]
            refine wpAnyH_take (i := 17) (oi := { dst := some 88, op := Op.binOp BinOp.neq 27 (Operand.tmp 87) (Operand.const (Value.int IntKind.i64 0)) 27, type := 4, pos := "law.go:151", after := #[{ on := 16, ground := Ground.data }, { on := 15, ground := Ground.guard }], guard := some (15, true) }) (v := ?_) rfl (by kernel_rfl) (by kernel_rfl) (by kernel_rfl) (fun _ _ _ h => h) (Or.inl ⟨by rfl, ?_⟩) (by assumption) ?_
            rotate_left
            · intro w hSw
              try dsimp only at hSw
              clear hSw
              go_simp
              try (with_reducible rfl)
            try simp only [Act.put, List.setIfInBounds_toArray, List.set_cons_zero, List.set_cons_succ]
            refine wpAnyH_take (i := 18) (oi := { dst := some 89, op := Op.move (Operand.tmp 88), type := 4, pos := "law.go:151", after := #[{ on := 17, ground := Ground.data }, { on := 15, ground := Ground.chain }, { on := 15, ground := Ground.guard }], guard := some (15, true) }) (v := ?_) rfl (by kernel_rfl) (by kernel_rfl) (by kernel_rfl) (fun _ _ _ h => h) (Or.inl ⟨by rfl, ?_⟩) (by assumption) ?_
            rotate_left
            · intro w hSw
              try dsimp only at hSw
              clear hSw
              go_simp
              try (with_reducible rfl)
            try simp only [Act.put, List.setIfInBounds_toArray, List.set_cons_zero, List.set_cons_succ]
            refine wpAnyH_take (i := 19) (oi := { dst := some 90, op := Op.move (Operand.tmp 16), type := 27, pos := "law.go:151", after := #[{ on := 18, ground := Ground.guard }], guard := some (18, false) }) (v := ?_) rfl (by kernel_rfl) (by kernel_rfl) (by kernel_rfl) (fun _ _ _ h => h) (Or.inl ⟨by rfl, ?_⟩) (by assumption) ?_
            rotate_left
            · intro w hSw
              try dsimp only at hSw
              clear hSw
              go_simp
              try (with_reducible rfl)
            try simp only [Act.put, List.setIfInBounds_toArray, List.set_cons_zero, List.set_cons_succ]
            refine wpAnyH_take (i := 20) (oi := { dst := some 91, op := Op.binOp BinOp.neq 27 (Operand.tmp 90) (Operand.const (Value.int IntKind.i64 0)) 27, type := 4, pos := "law.go:151", after := #[{ on := 19, ground := Ground.data }, { on := 18, ground := Ground.guard }], guard := some (18, false) }) (v := ?_) rfl (by kernel_rfl) (by kernel_rfl) (by kernel_rfl) (fun _ _ _ h => h) (Or.inl ⟨by rfl, ?_⟩) (by assumption) ?_
            rotate_left
            · intro w hSw
              try dsimp only at hSw
              clear hSw
              go_simp
              try (with_reducible rfl)
            try simp only [Act.put, List.setIfInBounds_toArray, List.set_cons_zero, List.set_cons_succ]
            refine wpAnyH_take (i := 21) (oi := { dst := some 92, op := Op.pick (Operand.tmp 89) (Operand.const (Value.bool true)) (Operand.tmp 91), type := 4, pos := "law.go:151", after := #[{ on := 18, ground := Ground.data }, { on := 20, ground := Ground.data }, { on := 15, ground := Ground.guard }], guard := some (15, true) }) (v := ?_) rfl (by kernel_rfl) (by kernel_rfl) (by kernel_rfl) (fun _ _ _ h => h) (Or.inl ⟨by rfl, ?_⟩) (by assumption) ?_
            rotate_left
            · intro w hSw
              try dsimp only at hSw
              clear hSw
              go_simp
              try (with_reducible rfl)
            try simp only [Act.put, List.setIfInBounds_toArray, List.set_cons_zero, List.set_cons_succ]
            refine wpAnyH_take (i := 22) (oi := { dst := some 93, op := Op.move (Operand.tmp 92), type := 4, pos := "law.go:151", after := #[{ on := 21, ground := Ground.data }, { on := 18, ground := Ground.chain }, { on := 15, ground := Ground.guard }], guard := some (15, true) }) (v := ?_) rfl (by kernel_rfl) (by kernel_rfl) (by kernel_rfl) (fun _ _ _ h => h) (Or.inl ⟨by rfl, ?_⟩) (by assumption) ?_
            rotate_left
            · intro w hSw
              try dsimp only at hSw
              clear hSw
              go_simp
              try (with_reducible rfl)
            try simp only [Act.put, List.setIfInBounds_toArray, List.set_cons_zero, List.set_cons_succ]
            refine wpAnyH_take (i := 23) (oi := { dst := some 94, op := Op.move (Operand.tmp 13), type := 23, pos := "law.go:151", after := #[{ on := 22, ground := Ground.guard }], guard := some (22, false) }) (v := undef) rfl (by kernel_rfl) (by kernel_rfl) (by kernel_rfl) (fun _ _ _ h => h) (Or.inr ⟨by rfl, rfl⟩) (by assumption) ?_
            try simp only [Act.put, List.setIfInBounds_toArray, List.set_cons_zero, List.set_cons_succ]
            refine wpAnyH_take (i := 24) (oi := { dst := some 95, op := Op.move (Operand.tmp 15), type := 23, pos := "law.go:151", after := #[{ on := 22, ground := Ground.guard }], guard := some (22, false) }) (v := undef) rfl (by kernel_rfl) (by kernel_rfl) (by kernel_rfl) (fun _ _ _ h => h) (Or.inr ⟨by rfl, rfl⟩) (by assumption) ?_
            try simp only [Act.put, List.setIfInBounds_toArray, List.set_cons_zero, List.set_cons_succ]
            refine wpAnyH_take (i := 25) (oi := { dst := some 96, op := Op.call { callee := Callee.value (Operand.func 12), args := #[Operand.tmp 94, Operand.tmp 95], argTypes := #[23, 23] }, type := 4, pos := "law.go:151", after := #[{ on := 23, ground := Ground.data }, { on := 24, ground := Ground.data }, { on := 22, ground := Ground.chain }, { on := 22, ground := Ground.guard }], guard := some (22, false) }) (v := undef) rfl (by kernel_rfl) (by kernel_rfl) (by kernel_rfl) (fun _ _ _ h => h) (Or.inr ⟨by rfl, rfl⟩) (by assumption) ?_
            try simp only [Act.put, List.setIfInBounds_toArray, List.set_cons_zero, List.set_cons_succ]
            refine wpAnyH_take (i := 26) (oi := { dst := some 97, op := Op.load 38 (Operand.tmp 6), type := 38, pos := "law.go:151", after := #[{ on := 22, ground := Ground.guard }], guard := some (22, false) }) (v := undef) rfl (by kernel_rfl) (by kernel_rfl) (by kernel_rfl) (fun _ _ _ h => h) (Or.inr ⟨by rfl, rfl⟩) (by assumption) ?_
            try simp only [Act.put, List.setIfInBounds_toArray, List.set_cons_zero, List.set_cons_succ]
            refine wpAnyH_take (i := 27) (oi := { dst := some 98, op := Op.load 38 (Operand.tmp 7), type := 38, pos := "law.go:151", after := #[{ on := 22, ground := Ground.guard }], guard := some (22, false) }) (v := undef) rfl (by kernel_rfl) (by kernel_rfl) (by kernel_rfl) (fun _ _ _ h => h) (Or.inr ⟨by rfl, rfl⟩) (by assumption) ?_
            try simp only [Act.put, List.setIfInBounds_toArray, List.set_cons_zero, List.set_cons_succ]
            refine wpAnyH_take (i := 28) (oi := { dst := some 99, op := Op.call { callee := Callee.value (Operand.func 17), args := #[Operand.tmp 97, Operand.tmp 98], argTypes := #[38, 38] }, type := 4, pos := "law.go:151", after := #[{ on := 26, ground := Ground.data }, { on := 27, ground := Ground.data }, { on := 25, ground := Ground.chain }, { on := 22, ground := Ground.guard }], guard := some (22, false) }) (v := undef) rfl (by kernel_rfl) (by kernel_rfl) (by kernel_rfl) (fun _ _ _ h => h) (Or.inr ⟨by rfl, rfl⟩) (by assumption) ?_
            try simp only [Act.put, List.setIfInBounds_toArray, List.set_cons_zero, List.set_cons_succ]
            refine wpAnyH_take (i := 29) (oi := { dst := some 100, op := Op.binOp BinOp.eql 4 (Operand.tmp 96) (Operand.tmp 99) 4, type := 4, pos := "law.go:151", after := #[{ on := 25, ground := Ground.data }, { on := 28, ground := Ground.data }, { on := 22, ground := Ground.guard }], guard := some (22, false) }) (v := undef) rfl (by kernel_rfl) (by kernel_rfl) (by kernel_rfl) (fun _ _ _ h => h) (Or.inr ⟨by rfl, rfl⟩) (by assumption) ?_
            try simp only [Act.put, List.setIfInBounds_toArray, List.set_cons_zero, List.set_cons_succ]
            refine wpAnyH_take (i := 30) (oi := { dst := some 101, op := Op.pick (Operand.tmp 93) (Operand.const (Value.bool true)) (Operand.tmp 100), type := 4, pos := "law.go:151", after := #[{ on := 22, ground := Ground.data }, { on := 29, ground := Ground.data }, { on := 15, ground := Ground.guard }], guard := some (15, true) }) (v := ?_) rfl (by kernel_rfl) (by kernel_rfl) (by kernel_rfl) (fun _ _ _ h => h) (Or.inl ⟨by rfl, ?_⟩) (by assumption) ?_
            rotate_left
            · intro w hSw
              try dsimp only at hSw
              clear hSw
              go_simp
              try (with_reducible rfl)
            try simp only [Act.put, List.setIfInBounds_toArray, List.set_cons_zero, List.set_cons_succ]
            refine wpAnyH_take (i := 31) (oi := { dst := some 102, op := Op.pick (Operand.tmp 86) (Operand.tmp 101) (Operand.const (Value.bool false)), type := 4, pos := "law.go:151", after := #[{ on := 15, ground := Ground.data }, { on := 30, ground := Ground.data }], guard := none }) (v := ?_) rfl (by kernel_rfl) (by kernel_rfl) (by kernel_rfl) (fun _ _ _ h => h) (Or.inl ⟨by rfl, ?_⟩) (by assumption) ?_
            rotate_left
            · intro w hSw
              try dsimp only at hSw
              clear hSw
              go_simp
              try (with_reducible rfl)
            try simp only [Act.put, List.setIfInBounds_toArray, List.set_cons_zero, List.set_cons_succ]
            refine wpAnyH_take (i := 32) (oi := { dst := some 8, op := Op.assign (Operand.tmp 102), type := 4, pos := "law.go:151", after := #[{ on := 31, ground := Ground.data }, { on := 28, ground := Ground.chain }, { on := 0, ground := Ground.phase }, { on := 1, ground := Ground.phase }, { on := 2, ground := Ground.phase }, { on := 3, ground := Ground.phase }, { on := 4, ground := Ground.phase }, { on := 5, ground := Ground.phase }, { on := 6, ground := Ground.phase }, { on := 7, ground := Ground.phase }, { on := 8, ground := Ground.phase }, { on := 9, ground := Ground.phase }, { on := 10, ground := Ground.phase }, { on := 11, ground := Ground.phase }, { on := 12, ground := Ground.phase }, { on := 13, ground := Ground.phase }, { on := 14, ground := Ground.phase }, { on := 15, ground := Ground.phase }, { on := 16, ground := Ground.phase }, { on := 17, ground := Ground.phase }, { on := 18, ground := Ground.phase }, { on := 19, ground := Ground.phase }, { on := 20, ground := Ground.phase }, { on := 21, ground := Ground.phase }, { on := 22, ground := Ground.phase }, { on := 23, ground := Ground.phase }, { on := 24, ground := Ground.phase }, { on := 25, ground := Ground.phase }, { on := 26, ground := Ground.phase }, { on := 27, ground := Ground.phase }, { on := 28, ground := Ground.phase }, { on := 29, ground := Ground.phase }, { on := 30, ground := Ground.phase }, { on := 31, ground := Ground.phase }], guard := none }) (v := ?_) rfl (by kernel_rfl) (by kernel_rfl) (by kernel_rfl) (fun _ _ _ h => h) (Or.inl ⟨by rfl, ?_⟩) (by assumption) ?_
            rotate_left
            · intro w hSw
              try dsimp only at hSw
              clear hSw
              go_simp
              try (with_reducible rfl)
            try simp only [Act.put, List.setIfInBounds_toArray, List.set_cons_zero, List.set_cons_succ]
            refine wpAnyH_done (by kernel_rfl) ?_ _
            refine NoPanic.normal ?_
            go_wp2_with fail
            go_ret
            exact ⟨rfl, (HB0.out.trans (HBK.out.mono (by omega)))⟩
        · have z1 : ((ec1 : Int) != 0) = false := by rw [bne_eq_false_iff_eq]; omega
          have z2 : ((ec2 : Int) != 0) = false := by rw [bne_eq_false_iff_eq]; omega
          have z3 : ((ec3 : Int) != 0) = true := by rw [bne_iff_ne]; omega
          have q1 := HK1.out.resolve_right (fun h => by omega)
          have q2 := HK2.out.resolve_right (fun h => by omega)
          have HO1 := hid ((HW10.out _ (HW1f.out _ (HW1e.out _ q1.2.2))))
          have HO2 := hid ((HW20.out _ (HW2f.out _ q2.2.2)))
          have HEQ1 := hid (knots_sameN x1 x2 ⟨HX1.out, q1.1⟩ ⟨HX2.out, q2.1⟩)
          clear q1 q2
          clear t1 t2 t3 
          go_wp2_with fail
          refine wp_region_noPanic ?_
          refine wp_region_held_drew (S := (fun w' => w'.heap[w.heap.size]? = some (.cells #[.int .u8 (x1.k : Int), .int .u8 (x1.n : Int), .int .u32 (x1.e : Int), .int .u32 (x1.l : Int), .int .u32 (x1.t : Int), .int .u32 (x1.g : Int), .int .u32 (x1.j : Int), .int .u32 (x1.v : Int), .int .u8 (x1.r : Int), .int .i64 x1.c, .int .u32 (x1.f : Int), .int .u32 (x1.o : Int), .slice A1 K1 C1] 25 (0, 0)) ∧ w'.heap[w.heap.size + 1]? = some (.cells #[.int .u8 (x2.k : Int), .int .u8 (x2.n : Int), .int .u32 (x2.e : Int), .int .u32 (x2.l : Int), .int .u32 (x2.t : Int), .int .u32 (x2.g : Int), .int .u32 (x2.j : Int), .int .u32 (x2.v : Int), .int .u8 (x2.r : Int), .int .i64 x2.c, .int .u32 (x2.f : Int), .int .u32 (x2.o : Int), .slice A2 K2 C2] 25 (0, 0)) ∧ w'.heap[w.heap.size + 1 + 1]? = some (.cells #[.int .u8 (y1.n : Int), .int .u32 (y1.e : Int), .int .u32 (y1.l : Int), .int .u32 (y1.s : Int), .int .u32 (y1.a : Int), .bool y1.p, .slice A3 K3 C3] 38 (0, 0)) ∧ w'.heap[w.heap.size + 1 + 1 + 1]? = some (.cells #[.int .u8 (y2.n : Int), .int .u32 (y2.e : Int), .int .u32 (y2.l : Int), .int .u32 (y2.s : Int), .int .u32 (y2.a : Int), .bool y2.p, .slice A4 K4 C4] 38 (0, 0)))) (by kernel_rfl) ?_ (fun hHeld => ?_)
          · exact ⟨HR0.out, HR1.out, HR2.out, HR3.out⟩
          refine wpAnyH_take (i := 0) (oi := { dst := some 71, op := Op.move (Operand.tmp 10), type := 27, pos := "law.go:151", after := #[], guard := none }) (v := ?_) rfl (by kernel_rfl) (by kernel_rfl) (by kernel_rfl) (fun _ _ _ h => h) (Or.inl ⟨by rfl, ?_⟩) (by assumption) ?_
          rotate_left
          · intro w hSw
            try dsimp only at hSw
            clear hSw
            go_simp
            try (with_reducible rfl)
          try simp only [Act.put, List.setIfInBounds_toArray, List.set_cons_zero, List.set_cons_succ]
          refine wpAnyH_take (i := 1) (oi := { dst := some 72, op := Op.binOp BinOp.neq 27 (Operand.tmp 71) (Operand.const (Value.int IntKind.i64 0)) 27, type := 4, pos := "law.go:151", after := #[{ on := 0, ground := Ground.data }], guard := none }) (v := ?_) rfl (by kernel_rfl) (by kernel_rfl) (by kernel_rfl) (fun _ _ _ h => h) (Or.inl ⟨by rfl, ?_⟩) (by assumption) ?_
          rotate_left
          · intro w hSw
            try dsimp only at hSw
            clear hSw
            go_simp
            try (with_reducible rfl)
          try simp only [Act.put, List.setIfInBounds_toArray, List.set_cons_zero, List.set_cons_succ]
          refine wpAnyH_take (i := 2) (oi := { dst := some 73, op := Op.move (Operand.tmp 72), type := 4, pos := "law.go:151", after := #[{ on := 1, ground := Ground.data }], guard := none }) (v := ?_) rfl (by kernel_rfl) (by kernel_rfl) (by kernel_rfl) (fun _ _ _ h => h) (Or.inl ⟨by rfl, ?_⟩) (by assumption) ?_
          rotate_left
          · intro w hSw
            try dsimp only at hSw
            clear hSw
            go_simp
            try (with_reducible rfl)
          try simp only [Act.put, List.setIfInBounds_toArray, List.set_cons_zero, List.set_cons_succ]
          refine wpAnyH_take (i := 3) (oi := { dst := some 74, op := Op.move (Operand.tmp 12), type := 27, pos := "law.go:151", after := #[{ on := 2, ground := Ground.guard }], guard := some (2, false) }) (v := ?_) rfl (by kernel_rfl) (by kernel_rfl) (by kernel_rfl) (fun _ _ _ h => h) (Or.inl ⟨by rfl, ?_⟩) (by assumption) ?_
          rotate_left
          · intro w hSw
            try dsimp only at hSw
            clear hSw
            go_simp
            try (with_reducible rfl)
          try simp only [Act.put, List.setIfInBounds_toArray, List.set_cons_zero, List.set_cons_succ]
          refine wpAnyH_take (i := 4) (oi := { dst := some 75, op := Op.binOp BinOp.neq 27 (Operand.tmp 74) (Operand.const (Value.int IntKind.i64 0)) 27, type := 4, pos := "law.go:151", after := #[{ on := 3, ground := Ground.data }, { on := 2, ground := Ground.guard }], guard := some (2, false) }) (v := ?_) rfl (by kernel_rfl) (by kernel_rfl) (by kernel_rfl) (fun _ _ _ h => h) (Or.inl ⟨by rfl, ?_⟩) (by assumption) ?_
          rotate_left
          · intro w hSw
            try dsimp only at hSw
            clear hSw
            go_simp
            try (with_reducible rfl)
          try simp only [Act.put, List.setIfInBounds_toArray, List.set_cons_zero, List.set_cons_succ]
          refine wpAnyH_take (i := 5) (oi := { dst := some 76, op := Op.pick (Operand.tmp 73) (Operand.const (Value.bool true)) (Operand.tmp 75), type := 4, pos := "law.go:151", after := #[{ on := 2, ground := Ground.data }, { on := 4, ground := Ground.data }], guard := none }) (v := ?_) rfl (by kernel_rfl) (by kernel_rfl) (by kernel_rfl) (fun _ _ _ h => h) (Or.inl ⟨by rfl, ?_⟩) (by assumption) ?_
          rotate_left
          · intro w hSw
            try dsimp only at hSw
            clear hSw
            go_simp
            try (with_reducible rfl)
          try simp only [Act.put, List.setIfInBounds_toArray, List.set_cons_zero, List.set_cons_succ]
          refine wpAnyH_take (i := 6) (oi := { dst := some 77, op := Op.move (Operand.tmp 76), type := 4, pos := "law.go:151", after := #[{ on := 5, ground := Ground.data }, { on := 2, ground := Ground.chain }], guard := none }) (v := ?_) rfl (by kernel_rfl) (by kernel_rfl) (by kernel_rfl) (fun _ _ _ h => h) (Or.inl ⟨by rfl, ?_⟩) (by assumption) ?_
          rotate_left
          · intro w hSw
            try dsimp only at hSw
            clear hSw
            go_simp
            try (with_reducible rfl)
          try simp only [Act.put, List.setIfInBounds_toArray, List.set_cons_zero, List.set_cons_succ]
          refine wpAnyH_take (i := 7) (oi := { dst := some 78, op := Op.move (Operand.tmp 9), type := 23, pos := "law.go:151", after := #[{ on := 6, ground := Ground.guard }], guard := some (6, false) }) (v := ?_) rfl (by kernel_rfl) (by kernel_rfl) (by kernel_rfl) (fun _ _ _ h => h) (Or.inl ⟨by rfl, ?_⟩) (by assumption) ?_
          rotate_left
          · intro w hSw
            try dsimp only at hSw
            clear hSw
            go_simp
            try (with_reducible rfl)
          try simp only [Act.put, List.setIfInBounds_toArray, List.set_cons_zero, List.set_cons_succ]
          refine wpAnyH_take (i := 8) (oi := { dst := some 79, op := Op.move (Operand.tmp 11), type := 23, pos := "law.go:151", after := #[{ on := 6, ground := Ground.guard }], guard := some (6, false) }) (v := ?_) rfl (by kernel_rfl) (by kernel_rfl) (by kernel_rfl) (fun _ _ _ h => h) (Or.inl ⟨by rfl, ?_⟩) (by assumption) ?_
          rotate_left
          · intro w hSw
            try dsimp only at hSw
            clear hSw
            go_simp
            try (with_reducible rfl)
          try simp only [Act.put, List.setIfInBounds_toArray, List.set_cons_zero, List.set_cons_succ]
          refine wpAnyH_take (i := 10) (oi := { dst := some 81, op := Op.load 25 (Operand.tmp 4), type := 25, pos := "law.go:151", after := #[{ on := 6, ground := Ground.guard }], guard := some (6, false) }) (v := ?_) rfl (by kernel_rfl) (by kernel_rfl) (by kernel_rfl) (fun _ _ _ h => h) (Or.inl ⟨by rfl, ?_⟩) (by assumption) ?_
          rotate_left
          · intro u hSu
            obtain ⟨s0, s1, s2, s3⟩ := hSu
            have c0_0 : u.cell? ⟨w.heap.size, 0, none⟩ = some (.int .u8 (x1.k : Int)) := (cell_of_row _ _ _ _ _ _ s0).trans rfl
            have c0_1 : u.cell? ⟨w.heap.size, 1, none⟩ = some (.int .u8 (x1.n : Int)) := (cell_of_row _ _ _ _ _ _ s0).trans rfl
            have c0_2 : u.cell? ⟨w.heap.size, 2, none⟩ = some (.int .u32 (x1.e : Int)) := (cell_of_row _ _ _ _ _ _ s0).trans rfl
            have c0_3 : u.cell? ⟨w.heap.size, 3, none⟩ = some (.int .u32 (x1.l : Int)) := (cell_of_row _ _ _ _ _ _ s0).trans rfl
            have c0_4 : u.cell? ⟨w.heap.size, 4, none⟩ = some (.int .u32 (x1.t : Int)) := (cell_of_row _ _ _ _ _ _ s0).trans rfl
            have c0_5 : u.cell? ⟨w.heap.size, 5, none⟩ = some (.int .u32 (x1.g : Int)) := (cell_of_row _ _ _ _ _ _ s0).trans rfl
            have c0_6 : u.cell? ⟨w.heap.size, 6, none⟩ = some (.int .u32 (x1.j : Int)) := (cell_of_row _ _ _ _ _ _ s0).trans rfl
            have c0_7 : u.cell? ⟨w.heap.size, 7, none⟩ = some (.int .u32 (x1.v : Int)) := (cell_of_row _ _ _ _ _ _ s0).trans rfl
            have c0_8 : u.cell? ⟨w.heap.size, 8, none⟩ = some (.int .u8 (x1.r : Int)) := (cell_of_row _ _ _ _ _ _ s0).trans rfl
            have c0_9 : u.cell? ⟨w.heap.size, 9, none⟩ = some (.int .i64 x1.c) := (cell_of_row _ _ _ _ _ _ s0).trans rfl
            have c0_10 : u.cell? ⟨w.heap.size, 10, none⟩ = some (.int .u32 (x1.f : Int)) := (cell_of_row _ _ _ _ _ _ s0).trans rfl
            have c0_11 : u.cell? ⟨w.heap.size, 11, none⟩ = some (.int .u32 (x1.o : Int)) := (cell_of_row _ _ _ _ _ _ s0).trans rfl
            have c0_12 : u.cell? ⟨w.heap.size, 12, none⟩ = some (.slice A1 K1 C1) := (cell_of_row _ _ _ _ _ _ s0).trans rfl
            clear s0 s1 s2 s3
            go_simp
            try (with_reducible rfl)
          try simp only [Act.put, List.setIfInBounds_toArray, List.set_cons_zero, List.set_cons_succ]
          refine wpAnyH_take (i := 11) (oi := { dst := some 82, op := Op.load 25 (Operand.tmp 5), type := 25, pos := "law.go:151", after := #[{ on := 6, ground := Ground.guard }], guard := some (6, false) }) (v := ?_) rfl (by kernel_rfl) (by kernel_rfl) (by kernel_rfl) (fun _ _ _ h => h) (Or.inl ⟨by rfl, ?_⟩) (by assumption) ?_
          rotate_left
          · intro u hSu
            obtain ⟨s0, s1, s2, s3⟩ := hSu
            have c1_0 : u.cell? ⟨w.heap.size + 1, 0, none⟩ = some (.int .u8 (x2.k : Int)) := (cell_of_row _ _ _ _ _ _ s1).trans rfl
            have c1_1 : u.cell? ⟨w.heap.size + 1, 1, none⟩ = some (.int .u8 (x2.n : Int)) := (cell_of_row _ _ _ _ _ _ s1).trans rfl
            have c1_2 : u.cell? ⟨w.heap.size + 1, 2, none⟩ = some (.int .u32 (x2.e : Int)) := (cell_of_row _ _ _ _ _ _ s1).trans rfl
            have c1_3 : u.cell? ⟨w.heap.size + 1, 3, none⟩ = some (.int .u32 (x2.l : Int)) := (cell_of_row _ _ _ _ _ _ s1).trans rfl
            have c1_4 : u.cell? ⟨w.heap.size + 1, 4, none⟩ = some (.int .u32 (x2.t : Int)) := (cell_of_row _ _ _ _ _ _ s1).trans rfl
            have c1_5 : u.cell? ⟨w.heap.size + 1, 5, none⟩ = some (.int .u32 (x2.g : Int)) := (cell_of_row _ _ _ _ _ _ s1).trans rfl
            have c1_6 : u.cell? ⟨w.heap.size + 1, 6, none⟩ = some (.int .u32 (x2.j : Int)) := (cell_of_row _ _ _ _ _ _ s1).trans rfl
            have c1_7 : u.cell? ⟨w.heap.size + 1, 7, none⟩ = some (.int .u32 (x2.v : Int)) := (cell_of_row _ _ _ _ _ _ s1).trans rfl
            have c1_8 : u.cell? ⟨w.heap.size + 1, 8, none⟩ = some (.int .u8 (x2.r : Int)) := (cell_of_row _ _ _ _ _ _ s1).trans rfl
            have c1_9 : u.cell? ⟨w.heap.size + 1, 9, none⟩ = some (.int .i64 x2.c) := (cell_of_row _ _ _ _ _ _ s1).trans rfl
            have c1_10 : u.cell? ⟨w.heap.size + 1, 10, none⟩ = some (.int .u32 (x2.f : Int)) := (cell_of_row _ _ _ _ _ _ s1).trans rfl
            have c1_11 : u.cell? ⟨w.heap.size + 1, 11, none⟩ = some (.int .u32 (x2.o : Int)) := (cell_of_row _ _ _ _ _ _ s1).trans rfl
            have c1_12 : u.cell? ⟨w.heap.size + 1, 12, none⟩ = some (.slice A2 K2 C2) := (cell_of_row _ _ _ _ _ _ s1).trans rfl
            clear s0 s1 s2 s3
            go_simp
            try (with_reducible rfl)
          try simp only [Act.put, List.setIfInBounds_toArray, List.set_cons_zero, List.set_cons_succ]
          refine wpAnyH_ready (rs := [9]) (by kernel_rfl) (by simp) ?_
          refine AllReadyH.cons (o := { dst := some 80, op := Op.call { callee := Callee.value (Operand.func 12), args := #[Operand.tmp 78, Operand.tmp 79], argTypes := #[23, 23] }, type := 4, pos := "law.go:151", after := #[{ on := 7, ground := Ground.data }, { on := 8, ground := Ground.data }, { on := 6, ground := Ground.chain }, { on := 6, ground := Ground.guard }], guard := some (6, false) }) rfl (fun K hK => ?_) AllReadyH.nil
          go_simp
          refine (same_any kv1 kv2 (Knot.knot x1.enc) (Knot.knot x2.enc) _ (show Rd w0.drew kv1 _ from HO1.out) (show Rd w0.drew kv2 _ from HO2.out)).mono ?_
          rintro e w' ⟨rfl, rfl⟩
          rw [HEQ1.out]
          go_wp2_with fail
          refine hK.out _ _ ?_ (fun hHeld => ?_)
          · exact hHeld
          clear hK K
          try simp only [Act.put, List.setIfInBounds_toArray, List.set_cons_zero, List.set_cons_succ]
          refine wpAnyH_ready (rs := [12]) (by kernel_rfl) (by simp) ?_
          refine AllReadyH.cons (o := { dst := some 83, op := Op.call { callee := Callee.value (Operand.func 13), args := #[Operand.tmp 81, Operand.tmp 82], argTypes := #[25, 25] }, type := 4, pos := "law.go:151", after := #[{ on := 10, ground := Ground.data }, { on := 11, ground := Ground.data }, { on := 9, ground := Ground.chain }, { on := 6, ground := Ground.guard }], guard := some (6, false) }) rfl (fun K hK => ?_) AllReadyH.nil
          go_simp
          refine (samenote_any x1 x2 A1 A2 C1 C2 K1 K2 _ (show Rd w0.drew _ _ from HD1.out) (show Rd w0.drew _ _ from HD2.out)).mono ?_
          rintro e wk ⟨rfl, hbk⟩
          have HBK := hid (show Below w0.heap.size w0 wk from ⟨hbk.os, hbk.tape, hbk.output, hbk.size, hbk.block⟩)
          clear hbk
          go_wp2_with fail
          refine hK.out _ _ ?_ (fun hHeld => ?_)
          · exact ⟨(HBK.out.block _ (by omega)).trans HR0.out, (HBK.out.block _ (by omega)).trans HR1.out, (HBK.out.block _ (by omega)).trans HR2.out, (HBK.out.block _ (by omega)).trans HR3.out⟩
          clear hK K
          try simp only [Act.put, List.setIfInBounds_toArray, List.set_cons_zero, List.set_cons_succ]
          refine wpAnyH_take (i := 13) (oi := { dst := some 84, op := Op.binOp BinOp.eql 4 (Operand.tmp 80) (Operand.tmp 83) 4, type := 4, pos := "law.go:151", after := #[{ on := 9, ground := Ground.data }, { on := 12, ground := Ground.data }, { on := 6, ground := Ground.guard }], guard := some (6, false) }) (v := ?_) rfl (by kernel_rfl) (by kernel_rfl) (by kernel_rfl) (fun _ _ _ h => h) (Or.inl ⟨by rfl, ?_⟩) (by assumption) ?_
          rotate_left
          · intro w hSw
            try dsimp only at hSw
            clear hSw
            go_simp
            try (with_reducible rfl)
          try simp only [Act.put, List.setIfInBounds_toArray, List.set_cons_zero, List.set_cons_succ]
          refine wpAnyH_take (i := 14) (oi := { dst := some 85, op := Op.pick (Operand.tmp 77) (Operand.const (Value.bool true)) (Operand.tmp 84), type := 4, pos := "law.go:151", after := #[{ on := 6, ground := Ground.data }, { on := 13, ground := Ground.data }], guard := none }) (v := ?_) rfl (by kernel_rfl) (by kernel_rfl) (by kernel_rfl) (fun _ _ _ h => h) (Or.inl ⟨by rfl, ?_⟩) (by assumption) ?_
          rotate_left
          · intro w hSw
            try dsimp only at hSw
            clear hSw
            go_simp
            try (with_reducible rfl)
          try simp only [Act.put, List.setIfInBounds_toArray, List.set_cons_zero, List.set_cons_succ]
          refine wpAnyH_take (i := 15) (oi := { dst := some 86, op := Op.move (Operand.tmp 85), type := 4, pos := "law.go:151", after := #[{ on := 14, ground := Ground.data }, { on := 12, ground := Ground.chain }], guard := none }) (v := ?_) rfl (by kernel_rfl) (by kernel_rfl) (by kernel_rfl) (fun _ _ _ h => h) (Or.inl ⟨by rfl, ?_⟩) (by assumption) ?_
          rotate_left
          · intro w hSw
            try dsimp only at hSw
            clear hSw
            go_simp
            try (with_reducible rfl)
          try simp only [Act.put, List.setIfInBounds_toArray, List.set_cons_zero, List.set_cons_succ]
          refine wpAnyH_take (i := 16) (oi := { dst := some 87, op := Op.move (Operand.tmp 14), type := 27, pos := "law.go:151", after := #[{ on := 15, ground := Ground.guard }], guard := some (15, true) }) (v := ?_) rfl (by kernel_rfl) (by kernel_rfl) (by kernel_rfl) (fun _ _ _ h => h) (Or.inl ⟨by rfl, ?_⟩) (by assumption) ?_
          rotate_left
          · intro w hSw
            try dsimp only at hSw
            clear hSw
            go_simp
            try (with_reducible rfl)
          try simp only [Act.put, List.setIfInBounds_toArray, List.set_cons_zero, List.set_cons_succ]
          refine wpAnyH_take (i := 17) (oi := { dst := some 88, op := Op.binOp BinOp.neq 27 (Operand.tmp 87) (Operand.const (Value.int IntKind.i64 0)) 27, type := 4, pos := "law.go:151", after := #[{ on := 16, ground := Ground.data }, { on := 15, ground := Ground.guard }], guard := some (15, true) }) (v := ?_) rfl (by kernel_rfl) (by kernel_rfl) (by kernel_rfl) (fun _ _ _ h => h) (Or.inl ⟨by rfl, ?_⟩) (by assumption) ?_
          rotate_left
          · intro w hSw
            try dsimp only at hSw
            clear hSw
            go_simp
            try (with_reducible rfl)
          try simp only [Act.put, List.setIfInBounds_toArray, List.set_cons_zero, List.set_cons_succ]
          refine wpAnyH_take (i := 18) (oi := { dst := some 89, op := Op.move (Operand.tmp 88), type := 4, pos := "law.go:151", after := #[{ on := 17, ground := Ground.data }, { on := 15, ground := Ground.chain }, { on := 15, ground := Ground.guard }], guard := some (15, true) }) (v := ?_) rfl (by kernel_rfl) (by kernel_rfl) (by kernel_rfl) (fun _ _ _ h => h) (Or.inl ⟨by rfl, ?_⟩) (by assumption) ?_
          rotate_left
          · intro w hSw
            try dsimp only at hSw
            clear hSw
            go_simp
            try (with_reducible rfl)
          try simp only [Act.put, List.setIfInBounds_toArray, List.set_cons_zero, List.set_cons_succ]
          refine wpAnyH_take (i := 19) (oi := { dst := some 90, op := Op.move (Operand.tmp 16), type := 27, pos := "law.go:151", after := #[{ on := 18, ground := Ground.guard }], guard := some (18, false) }) (v := undef) rfl (by kernel_rfl) (by kernel_rfl) (by kernel_rfl) (fun _ _ _ h => h) (Or.inr ⟨by rfl, rfl⟩) (by assumption) ?_
          try simp only [Act.put, List.setIfInBounds_toArray, List.set_cons_zero, List.set_cons_succ]
          refine wpAnyH_take (i := 20) (oi := { dst := some 91, op := Op.binOp BinOp.neq 27 (Operand.tmp 90) (Operand.const (Value.int IntKind.i64 0)) 27, type := 4, pos := "law.go:151", after := #[{ on := 19, ground := Ground.data }, { on := 18, ground := Ground.guard }], guard := some (18, false) }) (v := undef) rfl (by kernel_rfl) (by kernel_rfl) (by kernel_rfl) (fun _ _ _ h => h) (Or.inr ⟨by rfl, rfl⟩) (by assumption) ?_
          try simp only [Act.put, List.setIfInBounds_toArray, List.set_cons_zero, List.set_cons_succ]
          refine wpAnyH_take (i := 21) (oi := { dst := some 92, op := Op.pick (Operand.tmp 89) (Operand.const (Value.bool true)) (Operand.tmp 91), type := 4, pos := "law.go:151", after := #[{ on := 18, ground := Ground.data }, { on := 20, ground := Ground.data }, { on := 15, ground := Ground.guard }], guard := some (15, true) }) (v := ?_) rfl (by kernel_rfl) (by kernel_rfl) (by kernel_rfl) (fun _ _ _ h => h) (Or.inl ⟨by rfl, ?_⟩) (by assumption) ?_
          rotate_left
          · intro w hSw
            try dsimp only at hSw
            clear hSw
            go_simp
            try (with_reducible rfl)
          try simp only [Act.put, List.setIfInBounds_toArray, List.set_cons_zero, List.set_cons_succ]
          refine wpAnyH_take (i := 22) (oi := { dst := some 93, op := Op.move (Operand.tmp 92), type := 4, pos := "law.go:151", after := #[{ on := 21, ground := Ground.data }, { on := 18, ground := Ground.chain }, { on := 15, ground := Ground.guard }], guard := some (15, true) }) (v := ?_) rfl (by kernel_rfl) (by kernel_rfl) (by kernel_rfl) (fun _ _ _ h => h) (Or.inl ⟨by rfl, ?_⟩) (by assumption) ?_
          rotate_left
          · intro w hSw
            try dsimp only at hSw
            clear hSw
            go_simp
            try (with_reducible rfl)
          try simp only [Act.put, List.setIfInBounds_toArray, List.set_cons_zero, List.set_cons_succ]
          refine wpAnyH_take (i := 23) (oi := { dst := some 94, op := Op.move (Operand.tmp 13), type := 23, pos := "law.go:151", after := #[{ on := 22, ground := Ground.guard }], guard := some (22, false) }) (v := undef) rfl (by kernel_rfl) (by kernel_rfl) (by kernel_rfl) (fun _ _ _ h => h) (Or.inr ⟨by rfl, rfl⟩) (by assumption) ?_
          try simp only [Act.put, List.setIfInBounds_toArray, List.set_cons_zero, List.set_cons_succ]
          refine wpAnyH_take (i := 24) (oi := { dst := some 95, op := Op.move (Operand.tmp 15), type := 23, pos := "law.go:151", after := #[{ on := 22, ground := Ground.guard }], guard := some (22, false) }) (v := undef) rfl (by kernel_rfl) (by kernel_rfl) (by kernel_rfl) (fun _ _ _ h => h) (Or.inr ⟨by rfl, rfl⟩) (by assumption) ?_
          try simp only [Act.put, List.setIfInBounds_toArray, List.set_cons_zero, List.set_cons_succ]
          refine wpAnyH_take (i := 25) (oi := { dst := some 96, op := Op.call { callee := Callee.value (Operand.func 12), args := #[Operand.tmp 94, Operand.tmp 95], argTypes := #[23, 23] }, type := 4, pos := "law.go:151", after := #[{ on := 23, ground := Ground.data }, { on := 24, ground := Ground.data }, { on := 22, ground := Ground.chain }, { on := 22, ground := Ground.guard }], guard := some (22, false) }) (v := undef) rfl (by kernel_rfl) (by kernel_rfl) (by kernel_rfl) (fun _ _ _ h => h) (Or.inr ⟨by rfl, rfl⟩) (by assumption) ?_
          try simp only [Act.put, List.setIfInBounds_toArray, List.set_cons_zero, List.set_cons_succ]
          refine wpAnyH_take (i := 26) (oi := { dst := some 97, op := Op.load 38 (Operand.tmp 6), type := 38, pos := "law.go:151", after := #[{ on := 22, ground := Ground.guard }], guard := some (22, false) }) (v := undef) rfl (by kernel_rfl) (by kernel_rfl) (by kernel_rfl) (fun _ _ _ h => h) (Or.inr ⟨by rfl, rfl⟩) (by assumption) ?_
          try simp only [Act.put, List.setIfInBounds_toArray, List.set_cons_zero, List.set_cons_succ]
          refine wpAnyH_take (i := 27) (oi := { dst := some 98, op := Op.load 38 (Operand.tmp 7), type := 38, pos := "law.go:151", after := #[{ on := 22, ground := Ground.guard }], guard := some (22, false) }) (v := undef) rfl (by kernel_rfl) (by kernel_rfl) (by kernel_rfl) (fun _ _ _ h => h) (Or.inr ⟨by rfl, rfl⟩) (by assumption) ?_
          try simp only [Act.put, List.setIfInBounds_toArray, List.set_cons_zero, List.set_cons_succ]
          refine wpAnyH_take (i := 28) (oi := { dst := some 99, op := Op.call { callee := Callee.value (Operand.func 17), args := #[Operand.tmp 97, Operand.tmp 98], argTypes := #[38, 38] }, type := 4, pos := "law.go:151", after := #[{ on := 26, ground := Ground.data }, { on := 27, ground := Ground.data }, { on := 25, ground := Ground.chain }, { on := 22, ground := Ground.guard }], guard := some (22, false) }) (v := undef) rfl (by kernel_rfl) (by kernel_rfl) (by kernel_rfl) (fun _ _ _ h => h) (Or.inr ⟨by rfl, rfl⟩) (by assumption) ?_
          try simp only [Act.put, List.setIfInBounds_toArray, List.set_cons_zero, List.set_cons_succ]
          refine wpAnyH_take (i := 29) (oi := { dst := some 100, op := Op.binOp BinOp.eql 4 (Operand.tmp 96) (Operand.tmp 99) 4, type := 4, pos := "law.go:151", after := #[{ on := 25, ground := Ground.data }, { on := 28, ground := Ground.data }, { on := 22, ground := Ground.guard }], guard := some (22, false) }) (v := undef) rfl (by kernel_rfl) (by kernel_rfl) (by kernel_rfl) (fun _ _ _ h => h) (Or.inr ⟨by rfl, rfl⟩) (by assumption) ?_
          try simp only [Act.put, List.setIfInBounds_toArray, List.set_cons_zero, List.set_cons_succ]
          refine wpAnyH_take (i := 30) (oi := { dst := some 101, op := Op.pick (Operand.tmp 93) (Operand.const (Value.bool true)) (Operand.tmp 100), type := 4, pos := "law.go:151", after := #[{ on := 22, ground := Ground.data }, { on := 29, ground := Ground.data }, { on := 15, ground := Ground.guard }], guard := some (15, true) }) (v := ?_) rfl (by kernel_rfl) (by kernel_rfl) (by kernel_rfl) (fun _ _ _ h => h) (Or.inl ⟨by rfl, ?_⟩) (by assumption) ?_
          rotate_left
          · intro w hSw
            try dsimp only at hSw
            clear hSw
            go_simp
            try (with_reducible rfl)
          try simp only [Act.put, List.setIfInBounds_toArray, List.set_cons_zero, List.set_cons_succ]
          refine wpAnyH_take (i := 31) (oi := { dst := some 102, op := Op.pick (Operand.tmp 86) (Operand.tmp 101) (Operand.const (Value.bool false)), type := 4, pos := "law.go:151", after := #[{ on := 15, ground := Ground.data }, { on := 30, ground := Ground.data }], guard := none }) (v := ?_) rfl (by kernel_rfl) (by kernel_rfl) (by kernel_rfl) (fun _ _ _ h => h) (Or.inl ⟨by rfl, ?_⟩) (by assumption) ?_
          rotate_left
          · intro w hSw
            try dsimp only at hSw
            clear hSw
            go_simp
            try (with_reducible rfl)
          try simp only [Act.put, List.setIfInBounds_toArray, List.set_cons_zero, List.set_cons_succ]
          refine wpAnyH_take (i := 32) (oi := { dst := some 8, op := Op.assign (Operand.tmp 102), type := 4, pos := "law.go:151", after := #[{ on := 31, ground := Ground.data }, { on := 28, ground := Ground.chain }, { on := 0, ground := Ground.phase }, { on := 1, ground := Ground.phase }, { on := 2, ground := Ground.phase }, { on := 3, ground := Ground.phase }, { on := 4, ground := Ground.phase }, { on := 5, ground := Ground.phase }, { on := 6, ground := Ground.phase }, { on := 7, ground := Ground.phase }, { on := 8, ground := Ground.phase }, { on := 9, ground := Ground.phase }, { on := 10, ground := Ground.phase }, { on := 11, ground := Ground.phase }, { on := 12, ground := Ground.phase }, { on := 13, ground := Ground.phase }, { on := 14, ground := Ground.phase }, { on := 15, ground := Ground.phase }, { on := 16, ground := Ground.phase }, { on := 17, ground := Ground.phase }, { on := 18, ground := Ground.phase }, { on := 19, ground := Ground.phase }, { on := 20, ground := Ground.phase }, { on := 21, ground := Ground.phase }, { on := 22, ground := Ground.phase }, { on := 23, ground := Ground.phase }, { on := 24, ground := Ground.phase }, { on := 25, ground := Ground.phase }, { on := 26, ground := Ground.phase }, { on := 27, ground := Ground.phase }, { on := 28, ground := Ground.phase }, { on := 29, ground := Ground.phase }, { on := 30, ground := Ground.phase }, { on := 31, ground := Ground.phase }], guard := none }) (v := ?_) rfl (by kernel_rfl) (by kernel_rfl) (by kernel_rfl) (fun _ _ _ h => h) (Or.inl ⟨by rfl, ?_⟩) (by assumption) ?_
          rotate_left
          · intro w hSw
            try dsimp only at hSw
            clear hSw
            go_simp
            try (with_reducible rfl)
          try simp only [Act.put, List.setIfInBounds_toArray, List.set_cons_zero, List.set_cons_succ]
          refine wpAnyH_done (by kernel_rfl) ?_ _
          refine NoPanic.normal ?_
          go_wp2_with fail
          go_ret
          exact ⟨rfl, (HB0.out.trans (HBK.out.mono (by omega)))⟩
      · by_cases t3 : ec3 = 0
        · by_cases t4 : ec4 = 0
          · have z1 : ((ec1 : Int) != 0) = false := by rw [bne_eq_false_iff_eq]; omega
            have z2 : ((ec2 : Int) != 0) = true := by rw [bne_iff_ne]; omega
            have z3 : ((ec3 : Int) != 0) = false := by rw [bne_eq_false_iff_eq]; omega
            have z4 : ((ec4 : Int) != 0) = false := by rw [bne_eq_false_iff_eq]; omega
            have q3 := HK3.out.resolve_right (fun h => by omega)
            have q4 := HK4.out.resolve_right (fun h => by omega)
            have HO3 := hid ((HW30.out _ q3.2.2))
            have HO4 := hid (q4.2.2)
            have HEQ2 := hid (knots_sameP y1 y2 ⟨HX3.out, q3.1⟩ ⟨HX4.out, q4.1⟩)
            clear q3 q4
            clear t1 t2 t3 t4
            go_wp2_with fail
            refine wp_region_noPanic ?_
            refine wp_region_held_drew (S := (fun w' => w'.heap[w.heap.size]? = some (.cells #[.int .u8 (x1.k : Int), .int .u8 (x1.n : Int), .int .u32 (x1.e : Int), .int .u32 (x1.l : Int), .int .u32 (x1.t : Int), .int .u32 (x1.g : Int), .int .u32 (x1.j : Int), .int .u32 (x1.v : Int), .int .u8 (x1.r : Int), .int .i64 x1.c, .int .u32 (x1.f : Int), .int .u32 (x1.o : Int), .slice A1 K1 C1] 25 (0, 0)) ∧ w'.heap[w.heap.size + 1]? = some (.cells #[.int .u8 (x2.k : Int), .int .u8 (x2.n : Int), .int .u32 (x2.e : Int), .int .u32 (x2.l : Int), .int .u32 (x2.t : Int), .int .u32 (x2.g : Int), .int .u32 (x2.j : Int), .int .u32 (x2.v : Int), .int .u8 (x2.r : Int), .int .i64 x2.c, .int .u32 (x2.f : Int), .int .u32 (x2.o : Int), .slice A2 K2 C2] 25 (0, 0)) ∧ w'.heap[w.heap.size + 1 + 1]? = some (.cells #[.int .u8 (y1.n : Int), .int .u32 (y1.e : Int), .int .u32 (y1.l : Int), .int .u32 (y1.s : Int), .int .u32 (y1.a : Int), .bool y1.p, .slice A3 K3 C3] 38 (0, 0)) ∧ w'.heap[w.heap.size + 1 + 1 + 1]? = some (.cells #[.int .u8 (y2.n : Int), .int .u32 (y2.e : Int), .int .u32 (y2.l : Int), .int .u32 (y2.s : Int), .int .u32 (y2.a : Int), .bool y2.p, .slice A4 K4 C4] 38 (0, 0)))) (by kernel_rfl) ?_ (fun hHeld => ?_)
            · exact ⟨HR0.out, HR1.out, HR2.out, HR3.out⟩
            refine wpAnyH_take (i := 0) (oi := { dst := some 71, op := Op.move (Operand.tmp 10), type := 27, pos := "law.go:151", after := #[], guard := none }) (v := ?_) rfl (by kernel_rfl) (by kernel_rfl) (by kernel_rfl) (fun _ _ _ h => h) (Or.inl ⟨by rfl, ?_⟩) (by assumption) ?_
            rotate_left
            · intro w hSw
              try dsimp only at hSw
              clear hSw
              go_simp
              try (with_reducible rfl)
            try simp only [Act.put, List.setIfInBounds_toArray, List.set_cons_zero, List.set_cons_succ]
            refine wpAnyH_take (i := 1) (oi := { dst := some 72, op := Op.binOp BinOp.neq 27 (Operand.tmp 71) (Operand.const (Value.int IntKind.i64 0)) 27, type := 4, pos := "law.go:151", after := #[{ on := 0, ground := Ground.data }], guard := none }) (v := ?_) rfl (by kernel_rfl) (by kernel_rfl) (by kernel_rfl) (fun _ _ _ h => h) (Or.inl ⟨by rfl, ?_⟩) (by assumption) ?_
            rotate_left
            · intro w hSw
              try dsimp only at hSw
              clear hSw
              go_simp
              try (with_reducible rfl)
            try simp only [Act.put, List.setIfInBounds_toArray, List.set_cons_zero, List.set_cons_succ]
            refine wpAnyH_take (i := 2) (oi := { dst := some 73, op := Op.move (Operand.tmp 72), type := 4, pos := "law.go:151", after := #[{ on := 1, ground := Ground.data }], guard := none }) (v := ?_) rfl (by kernel_rfl) (by kernel_rfl) (by kernel_rfl) (fun _ _ _ h => h) (Or.inl ⟨by rfl, ?_⟩) (by assumption) ?_
            rotate_left
            · intro w hSw
              try dsimp only at hSw
              clear hSw
              go_simp
              try (with_reducible rfl)
            try simp only [Act.put, List.setIfInBounds_toArray, List.set_cons_zero, List.set_cons_succ]
            refine wpAnyH_take (i := 3) (oi := { dst := some 74, op := Op.move (Operand.tmp 12), type := 27, pos := "law.go:151", after := #[{ on := 2, ground := Ground.guard }], guard := some (2, false) }) (v := ?_) rfl (by kernel_rfl) (by kernel_rfl) (by kernel_rfl) (fun _ _ _ h => h) (Or.inl ⟨by rfl, ?_⟩) (by assumption) ?_
            rotate_left
            · intro w hSw
              try dsimp only at hSw
              clear hSw
              go_simp
              try (with_reducible rfl)
            try simp only [Act.put, List.setIfInBounds_toArray, List.set_cons_zero, List.set_cons_succ]
            refine wpAnyH_take (i := 4) (oi := { dst := some 75, op := Op.binOp BinOp.neq 27 (Operand.tmp 74) (Operand.const (Value.int IntKind.i64 0)) 27, type := 4, pos := "law.go:151", after := #[{ on := 3, ground := Ground.data }, { on := 2, ground := Ground.guard }], guard := some (2, false) }) (v := ?_) rfl (by kernel_rfl) (by kernel_rfl) (by kernel_rfl) (fun _ _ _ h => h) (Or.inl ⟨by rfl, ?_⟩) (by assumption) ?_
            rotate_left
            · intro w hSw
              try dsimp only at hSw
              clear hSw
              go_simp
              try (with_reducible rfl)
            try simp only [Act.put, List.setIfInBounds_toArray, List.set_cons_zero, List.set_cons_succ]
            refine wpAnyH_take (i := 5) (oi := { dst := some 76, op := Op.pick (Operand.tmp 73) (Operand.const (Value.bool true)) (Operand.tmp 75), type := 4, pos := "law.go:151", after := #[{ on := 2, ground := Ground.data }, { on := 4, ground := Ground.data }], guard := none }) (v := ?_) rfl (by kernel_rfl) (by kernel_rfl) (by kernel_rfl) (fun _ _ _ h => h) (Or.inl ⟨by rfl, ?_⟩) (by assumption) ?_
            rotate_left
            · intro w hSw
              try dsimp only at hSw
              clear hSw
              go_simp
              try (with_reducible rfl)
            try simp only [Act.put, List.setIfInBounds_toArray, List.set_cons_zero, List.set_cons_succ]
            refine wpAnyH_take (i := 6) (oi := { dst := some 77, op := Op.move (Operand.tmp 76), type := 4, pos := "law.go:151", after := #[{ on := 5, ground := Ground.data }, { on := 2, ground := Ground.chain }], guard := none }) (v := ?_) rfl (by kernel_rfl) (by kernel_rfl) (by kernel_rfl) (fun _ _ _ h => h) (Or.inl ⟨by rfl, ?_⟩) (by assumption) ?_
            rotate_left
            · intro w hSw
              try dsimp only at hSw
              clear hSw
              go_simp
              try (with_reducible rfl)
            try simp only [Act.put, List.setIfInBounds_toArray, List.set_cons_zero, List.set_cons_succ]
            refine wpAnyH_take (i := 7) (oi := { dst := some 78, op := Op.move (Operand.tmp 9), type := 23, pos := "law.go:151", after := #[{ on := 6, ground := Ground.guard }], guard := some (6, false) }) (v := undef) rfl (by kernel_rfl) (by kernel_rfl) (by kernel_rfl) (fun _ _ _ h => h) (Or.inr ⟨by rfl, rfl⟩) (by assumption) ?_
            try simp only [Act.put, List.setIfInBounds_toArray, List.set_cons_zero, List.set_cons_succ]
            refine wpAnyH_take (i := 8) (oi := { dst := some 79, op := Op.move (Operand.tmp 11), type := 23, pos := "law.go:151", after := #[{ on := 6, ground := Ground.guard }], guard := some (6, false) }) (v := undef) rfl (by kernel_rfl) (by kernel_rfl) (by kernel_rfl) (fun _ _ _ h => h) (Or.inr ⟨by rfl, rfl⟩) (by assumption) ?_
            try simp only [Act.put, List.setIfInBounds_toArray, List.set_cons_zero, List.set_cons_succ]
            refine wpAnyH_take (i := 9) (oi := { dst := some 80, op := Op.call { callee := Callee.value (Operand.func 12), args := #[Operand.tmp 78, Operand.tmp 79], argTypes := #[23, 23] }, type := 4, pos := "law.go:151", after := #[{ on := 7, ground := Ground.data }, { on := 8, ground := Ground.data }, { on := 6, ground := Ground.chain }, { on := 6, ground := Ground.guard }], guard := some (6, false) }) (v := undef) rfl (by kernel_rfl) (by kernel_rfl) (by kernel_rfl) (fun _ _ _ h => h) (Or.inr ⟨by rfl, rfl⟩) (by assumption) ?_
            try simp only [Act.put, List.setIfInBounds_toArray, List.set_cons_zero, List.set_cons_succ]
            refine wpAnyH_take (i := 10) (oi := { dst := some 81, op := Op.load 25 (Operand.tmp 4), type := 25, pos := "law.go:151", after := #[{ on := 6, ground := Ground.guard }], guard := some (6, false) }) (v := undef) rfl (by kernel_rfl) (by kernel_rfl) (by kernel_rfl) (fun _ _ _ h => h) (Or.inr ⟨by rfl, rfl⟩) (by assumption) ?_
            try simp only [Act.put, List.setIfInBounds_toArray, List.set_cons_zero, List.set_cons_succ]
            refine wpAnyH_take (i := 11) (oi := { dst := some 82, op := Op.load 25 (Operand.tmp 5), type := 25, pos := "law.go:151", after := #[{ on := 6, ground := Ground.guard }], guard := some (6, false) }) (v := undef) rfl (by kernel_rfl) (by kernel_rfl) (by kernel_rfl) (fun _ _ _ h => h) (Or.inr ⟨by rfl, rfl⟩) (by assumption) ?_
            try simp only [Act.put, List.setIfInBounds_toArray, List.set_cons_zero, List.set_cons_succ]
            refine wpAnyH_take (i := 12) (oi := { dst := some 83, op := Op.call { callee := Callee.value (Operand.func 13), args := #[Operand.tmp 81, Operand.tmp 82], argTypes := #[25, 25] }, type := 4, pos := "law.go:151", after := #[{ on := 10, ground := Ground.data }, { on := 11, ground := Ground.data }, { on := 9, ground := Ground.chain }, { on := 6, ground := Ground.guard }], guard := some (6, false) }) (v := undef) rfl (by kernel_rfl) (by kernel_rfl) (by kernel_rfl) (fun _ _ _ h => h) (Or.inr ⟨by rfl, rfl⟩) (by assumption) ?_
            try simp only [Act.put, List.setIfInBounds_toArray, List.set_cons_zero, List.set_cons_succ]
            refine wpAnyH_take (i := 13) (oi := { dst := some 84, op := Op.binOp BinOp.eql 4 (Operand.tmp 80) (Operand.tmp 83) 4, type := 4, pos := "law.go:151", after := #[{ on := 9, ground := Ground.data }, { on := 12, ground := Ground.data }, { on := 6, ground := Ground.guard }], guard := some (6, false) }) (v := undef) rfl (by kernel_rfl) (by kernel_rfl) (by kernel_rfl) (fun _ _ _ h => h) (Or.inr ⟨by rfl, rfl⟩) (by assumption) ?_
            try simp only [Act.put, List.setIfInBounds_toArray, List.set_cons_zero, List.set_cons_succ]
            refine wpAnyH_take (i := 14) (oi := { dst := some 85, op := Op.pick (Operand.tmp 77) (Operand.const (Value.bool true)) (Operand.tmp 84), type := 4, pos := "law.go:151", after := #[{ on := 6, ground := Ground.data }, { on := 13, ground := Ground.data }], guard := none }) (v := ?_) rfl (by kernel_rfl) (by kernel_rfl) (by kernel_rfl) (fun _ _ _ h => h) (Or.inl ⟨by rfl, ?_⟩) (by assumption) ?_
            rotate_left
            · intro w hSw
              try dsimp only at hSw
              clear hSw
              go_simp
              try (with_reducible rfl)
            try simp only [Act.put, List.setIfInBounds_toArray, List.set_cons_zero, List.set_cons_succ]
            refine wpAnyH_take (i := 15) (oi := { dst := some 86, op := Op.move (Operand.tmp 85), type := 4, pos := "law.go:151", after := #[{ on := 14, ground := Ground.data }, { on := 12, ground := Ground.chain }], guard := none }) (v := ?_) rfl (by kernel_rfl) (by kernel_rfl) (by kernel_rfl) (fun _ _ _ h => h) (Or.inl ⟨by rfl, ?_⟩) (by assumption) ?_
            rotate_left
            · intro w hSw
              try dsimp only at hSw
              clear hSw
              go_simp
              try (with_reducible rfl)
            try simp only [Act.put, List.setIfInBounds_toArray, List.set_cons_zero, List.set_cons_succ]
            refine wpAnyH_take (i := 16) (oi := { dst := some 87, op := Op.move (Operand.tmp 14), type := 27, pos := "law.go:151", after := #[{ on := 15, ground := Ground.guard }], guard := some (15, true) }) (v := ?_) rfl (by kernel_rfl) (by kernel_rfl) (by kernel_rfl) (fun _ _ _ h => h) (Or.inl ⟨by rfl, ?_⟩) (by assumption) ?_
            rotate_left
            · intro w hSw
              try dsimp only at hSw
              clear hSw
              go_simp
              try (with_reducible rfl)
            try simp only [Act.put, List.setIfInBounds_toArray, List.set_cons_zero, List.set_cons_succ]
            refine wpAnyH_take (i := 17) (oi := { dst := some 88, op := Op.binOp BinOp.neq 27 (Operand.tmp 87) (Operand.const (Value.int IntKind.i64 0)) 27, type := 4, pos := "law.go:151", after := #[{ on := 16, ground := Ground.data }, { on := 15, ground := Ground.guard }], guard := some (15, true) }) (v := ?_) rfl (by kernel_rfl) (by kernel_rfl) (by kernel_rfl) (fun _ _ _ h => h) (Or.inl ⟨by rfl, ?_⟩) (by assumption) ?_
            rotate_left
            · intro w hSw
              try dsimp only at hSw
              clear hSw
              go_simp
              try (with_reducible rfl)
            try simp only [Act.put, List.setIfInBounds_toArray, List.set_cons_zero, List.set_cons_succ]
            refine wpAnyH_take (i := 18) (oi := { dst := some 89, op := Op.move (Operand.tmp 88), type := 4, pos := "law.go:151", after := #[{ on := 17, ground := Ground.data }, { on := 15, ground := Ground.chain }, { on := 15, ground := Ground.guard }], guard := some (15, true) }) (v := ?_) rfl (by kernel_rfl) (by kernel_rfl) (by kernel_rfl) (fun _ _ _ h => h) (Or.inl ⟨by rfl, ?_⟩) (by assumption) ?_
            rotate_left
            · intro w hSw
              try dsimp only at hSw
              clear hSw
              go_simp
              try (with_reducible rfl)
            try simp only [Act.put, List.setIfInBounds_toArray, List.set_cons_zero, List.set_cons_succ]
            refine wpAnyH_take (i := 19) (oi := { dst := some 90, op := Op.move (Operand.tmp 16), type := 27, pos := "law.go:151", after := #[{ on := 18, ground := Ground.guard }], guard := some (18, false) }) (v := ?_) rfl (by kernel_rfl) (by kernel_rfl) (by kernel_rfl) (fun _ _ _ h => h) (Or.inl ⟨by rfl, ?_⟩) (by assumption) ?_
            rotate_left
            · intro w hSw
              try dsimp only at hSw
              clear hSw
              go_simp
              try (with_reducible rfl)
            try simp only [Act.put, List.setIfInBounds_toArray, List.set_cons_zero, List.set_cons_succ]
            refine wpAnyH_take (i := 20) (oi := { dst := some 91, op := Op.binOp BinOp.neq 27 (Operand.tmp 90) (Operand.const (Value.int IntKind.i64 0)) 27, type := 4, pos := "law.go:151", after := #[{ on := 19, ground := Ground.data }, { on := 18, ground := Ground.guard }], guard := some (18, false) }) (v := ?_) rfl (by kernel_rfl) (by kernel_rfl) (by kernel_rfl) (fun _ _ _ h => h) (Or.inl ⟨by rfl, ?_⟩) (by assumption) ?_
            rotate_left
            · intro w hSw
              try dsimp only at hSw
              clear hSw
              go_simp
              try (with_reducible rfl)
            try simp only [Act.put, List.setIfInBounds_toArray, List.set_cons_zero, List.set_cons_succ]
            refine wpAnyH_take (i := 21) (oi := { dst := some 92, op := Op.pick (Operand.tmp 89) (Operand.const (Value.bool true)) (Operand.tmp 91), type := 4, pos := "law.go:151", after := #[{ on := 18, ground := Ground.data }, { on := 20, ground := Ground.data }, { on := 15, ground := Ground.guard }], guard := some (15, true) }) (v := ?_) rfl (by kernel_rfl) (by kernel_rfl) (by kernel_rfl) (fun _ _ _ h => h) (Or.inl ⟨by rfl, ?_⟩) (by assumption) ?_
            rotate_left
            · intro w hSw
              try dsimp only at hSw
              clear hSw
              go_simp
              try (with_reducible rfl)
            try simp only [Act.put, List.setIfInBounds_toArray, List.set_cons_zero, List.set_cons_succ]
            refine wpAnyH_take (i := 22) (oi := { dst := some 93, op := Op.move (Operand.tmp 92), type := 4, pos := "law.go:151", after := #[{ on := 21, ground := Ground.data }, { on := 18, ground := Ground.chain }, { on := 15, ground := Ground.guard }], guard := some (15, true) }) (v := ?_) rfl (by kernel_rfl) (by kernel_rfl) (by kernel_rfl) (fun _ _ _ h => h) (Or.inl ⟨by rfl, ?_⟩) (by assumption) ?_
            rotate_left
            · intro w hSw
              try dsimp only at hSw
              clear hSw
              go_simp
              try (with_reducible rfl)
            try simp only [Act.put, List.setIfInBounds_toArray, List.set_cons_zero, List.set_cons_succ]
            refine wpAnyH_take (i := 23) (oi := { dst := some 94, op := Op.move (Operand.tmp 13), type := 23, pos := "law.go:151", after := #[{ on := 22, ground := Ground.guard }], guard := some (22, false) }) (v := ?_) rfl (by kernel_rfl) (by kernel_rfl) (by kernel_rfl) (fun _ _ _ h => h) (Or.inl ⟨by rfl, ?_⟩) (by assumption) ?_
            rotate_left
            · intro w hSw
              try dsimp only at hSw
              clear hSw
              go_simp
              try (with_reducible rfl)
            try simp only [Act.put, List.setIfInBounds_toArray, List.set_cons_zero, List.set_cons_succ]
            refine wpAnyH_take (i := 24) (oi := { dst := some 95, op := Op.move (Operand.tmp 15), type := 23, pos := "law.go:151", after := #[{ on := 22, ground := Ground.guard }], guard := some (22, false) }) (v := ?_) rfl (by kernel_rfl) (by kernel_rfl) (by kernel_rfl) (fun _ _ _ h => h) (Or.inl ⟨by rfl, ?_⟩) (by assumption) ?_
            rotate_left
            · intro w hSw
              try dsimp only at hSw
              clear hSw
              go_simp
              try (with_reducible rfl)
            try simp only [Act.put, List.setIfInBounds_toArray, List.set_cons_zero, List.set_cons_succ]
            refine wpAnyH_take (i := 26) (oi := { dst := some 97, op := Op.load 38 (Operand.tmp 6), type := 38, pos := "law.go:151", after := #[{ on := 22, ground := Ground.guard }], guard := some (22, false) }) (v := ?_) rfl (by kernel_rfl) (by kernel_rfl) (by kernel_rfl) (fun _ _ _ h => h) (Or.inl ⟨by rfl, ?_⟩) (by assumption) ?_
            rotate_left
            · intro u hSu
              obtain ⟨s0, s1, s2, s3⟩ := hSu
              have c2_0 : u.cell? ⟨w.heap.size + 1 + 1, 0, none⟩ = some (.int .u8 (y1.n : Int)) := (cell_of_row _ _ _ _ _ _ s2).trans rfl
              have c2_1 : u.cell? ⟨w.heap.size + 1 + 1, 1, none⟩ = some (.int .u32 (y1.e : Int)) := (cell_of_row _ _ _ _ _ _ s2).trans rfl
              have c2_2 : u.cell? ⟨w.heap.size + 1 + 1, 2, none⟩ = some (.int .u32 (y1.l : Int)) := (cell_of_row _ _ _ _ _ _ s2).trans rfl
              have c2_3 : u.cell? ⟨w.heap.size + 1 + 1, 3, none⟩ = some (.int .u32 (y1.s : Int)) := (cell_of_row _ _ _ _ _ _ s2).trans rfl
              have c2_4 : u.cell? ⟨w.heap.size + 1 + 1, 4, none⟩ = some (.int .u32 (y1.a : Int)) := (cell_of_row _ _ _ _ _ _ s2).trans rfl
              have c2_5 : u.cell? ⟨w.heap.size + 1 + 1, 5, none⟩ = some (.bool y1.p) := (cell_of_row _ _ _ _ _ _ s2).trans rfl
              have c2_6 : u.cell? ⟨w.heap.size + 1 + 1, 6, none⟩ = some (.slice A3 K3 C3) := (cell_of_row _ _ _ _ _ _ s2).trans rfl
              clear s0 s1 s2 s3
              go_simp
              try (with_reducible rfl)
            try simp only [Act.put, List.setIfInBounds_toArray, List.set_cons_zero, List.set_cons_succ]
            refine wpAnyH_take (i := 27) (oi := { dst := some 98, op := Op.load 38 (Operand.tmp 7), type := 38, pos := "law.go:151", after := #[{ on := 22, ground := Ground.guard }], guard := some (22, false) }) (v := ?_) rfl (by kernel_rfl) (by kernel_rfl) (by kernel_rfl) (fun _ _ _ h => h) (Or.inl ⟨by rfl, ?_⟩) (by assumption) ?_
            rotate_left
            · intro u hSu
              obtain ⟨s0, s1, s2, s3⟩ := hSu
              have c3_0 : u.cell? ⟨w.heap.size + 1 + 1 + 1, 0, none⟩ = some (.int .u8 (y2.n : Int)) := (cell_of_row _ _ _ _ _ _ s3).trans rfl
              have c3_1 : u.cell? ⟨w.heap.size + 1 + 1 + 1, 1, none⟩ = some (.int .u32 (y2.e : Int)) := (cell_of_row _ _ _ _ _ _ s3).trans rfl
              have c3_2 : u.cell? ⟨w.heap.size + 1 + 1 + 1, 2, none⟩ = some (.int .u32 (y2.l : Int)) := (cell_of_row _ _ _ _ _ _ s3).trans rfl
              have c3_3 : u.cell? ⟨w.heap.size + 1 + 1 + 1, 3, none⟩ = some (.int .u32 (y2.s : Int)) := (cell_of_row _ _ _ _ _ _ s3).trans rfl
              have c3_4 : u.cell? ⟨w.heap.size + 1 + 1 + 1, 4, none⟩ = some (.int .u32 (y2.a : Int)) := (cell_of_row _ _ _ _ _ _ s3).trans rfl
              have c3_5 : u.cell? ⟨w.heap.size + 1 + 1 + 1, 5, none⟩ = some (.bool y2.p) := (cell_of_row _ _ _ _ _ _ s3).trans rfl
              have c3_6 : u.cell? ⟨w.heap.size + 1 + 1 + 1, 6, none⟩ = some (.slice A4 K4 C4) := (cell_of_row _ _ _ _ _ _ s3).trans rfl
              clear s0 s1 s2 s3
              go_simp
              try (with_reducible rfl)
            try simp only [Act.put, List.setIfInBounds_toArray, List.set_cons_zero, List.set_cons_succ]
            refine wpAnyH_ready (rs := [25]) (by kernel_rfl) (by simp) ?_
            refine AllReadyH.cons (o := { dst := some 96, op := Op.call { callee := Callee.value (Operand.func 12), args := #[Operand.tmp 94, Operand.tmp 95], argTypes := #[23, 23] }, type := 4, pos := "law.go:151", after := #[{ on := 23, ground := Ground.data }, { on := 24, ground := Ground.data }, { on := 22, ground := Ground.chain }, { on := 22, ground := Ground.guard }], guard := some (22, false) }) rfl (fun K hK => ?_) AllReadyH.nil
            go_simp
            refine (same_any kv3 kv4 (Knot.knot y1.enc) (Knot.knot y2.enc) _ (show Rd w0.drew _ _ from HO3.out) (show Rd w0.drew _ _ from HO4.out)).mono ?_
            rintro e w' ⟨rfl, rfl⟩
            rw [HEQ2.out]
            go_wp2_with fail
            refine hK.out _ _ ?_ (fun hHeld => ?_)
            · exact hHeld
            clear hK K
            try simp only [Act.put, List.setIfInBounds_toArray, List.set_cons_zero, List.set_cons_succ]
            refine wpAnyH_ready (rs := [28]) (by kernel_rfl) (by simp) ?_
            refine AllReadyH.cons (o := { dst := some 99, op := Op.call { callee := Callee.value (Operand.func 17), args := #[Operand.tmp 97, Operand.tmp 98], argTypes := #[38, 38] }, type := 4, pos := "law.go:151", after := #[{ on := 26, ground := Ground.data }, { on := 27, ground := Ground.data }, { on := 25, ground := Ground.chain }, { on := 22, ground := Ground.guard }], guard := some (22, false) }) rfl (fun K hK => ?_) AllReadyH.nil
            go_simp
            refine (samepacket_any y1 y2 A3 A4 C3 C4 K3 K4 _ (show Rd w0.drew _ _ from HD3.out) (show Rd w0.drew _ _ from HD4.out)).mono ?_
            rintro e wl ⟨rfl, hbl⟩
            have HBL := hid (show Below w0.heap.size w0 wl from ⟨hbl.os, hbl.tape, hbl.output, hbl.size, hbl.block⟩)
            have hsl : w0.heap.size ≤ w0.heap.size := Nat.le_refl _
            clear hbl
            go_wp2_with fail
            refine hK.out _ _ ?_ (fun hHeld => ?_)
            · obtain ⟨s0, s1, s2, s3⟩ := hHeld
              exact ⟨(HBL.out.block _ (by omega)).trans s0, (HBL.out.block _ (by omega)).trans s1, (HBL.out.block _ (by omega)).trans s2, (HBL.out.block _ (by omega)).trans s3⟩
            clear hK K
            try simp only [Act.put, List.setIfInBounds_toArray, List.set_cons_zero, List.set_cons_succ]
            refine wpAnyH_take (i := 29) (oi := { dst := some 100, op := Op.binOp BinOp.eql 4 (Operand.tmp 96) (Operand.tmp 99) 4, type := 4, pos := "law.go:151", after := #[{ on := 25, ground := Ground.data }, { on := 28, ground := Ground.data }, { on := 22, ground := Ground.guard }], guard := some (22, false) }) (v := ?_) rfl (by kernel_rfl) (by kernel_rfl) (by kernel_rfl) (fun _ _ _ h => h) (Or.inl ⟨by rfl, ?_⟩) (by assumption) ?_
            rotate_left
            · intro w hSw
              try dsimp only at hSw
              clear hSw
              go_simp
              try (with_reducible rfl)
            try simp only [Act.put, List.setIfInBounds_toArray, List.set_cons_zero, List.set_cons_succ]
            refine wpAnyH_take (i := 30) (oi := { dst := some 101, op := Op.pick (Operand.tmp 93) (Operand.const (Value.bool true)) (Operand.tmp 100), type := 4, pos := "law.go:151", after := #[{ on := 22, ground := Ground.data }, { on := 29, ground := Ground.data }, { on := 15, ground := Ground.guard }], guard := some (15, true) }) (v := ?_) rfl (by kernel_rfl) (by kernel_rfl) (by kernel_rfl) (fun _ _ _ h => h) (Or.inl ⟨by rfl, ?_⟩) (by assumption) ?_
            rotate_left
            · intro w hSw
              try dsimp only at hSw
              clear hSw
              go_simp
              try (with_reducible rfl)
            try simp only [Act.put, List.setIfInBounds_toArray, List.set_cons_zero, List.set_cons_succ]
            refine wpAnyH_take (i := 31) (oi := { dst := some 102, op := Op.pick (Operand.tmp 86) (Operand.tmp 101) (Operand.const (Value.bool false)), type := 4, pos := "law.go:151", after := #[{ on := 15, ground := Ground.data }, { on := 30, ground := Ground.data }], guard := none }) (v := ?_) rfl (by kernel_rfl) (by kernel_rfl) (by kernel_rfl) (fun _ _ _ h => h) (Or.inl ⟨by rfl, ?_⟩) (by assumption) ?_
            rotate_left
            · intro w hSw
              try dsimp only at hSw
              clear hSw
              go_simp
              try (with_reducible rfl)
            try simp only [Act.put, List.setIfInBounds_toArray, List.set_cons_zero, List.set_cons_succ]
            refine wpAnyH_take (i := 32) (oi := { dst := some 8, op := Op.assign (Operand.tmp 102), type := 4, pos := "law.go:151", after := #[{ on := 31, ground := Ground.data }, { on := 28, ground := Ground.chain }, { on := 0, ground := Ground.phase }, { on := 1, ground := Ground.phase }, { on := 2, ground := Ground.phase }, { on := 3, ground := Ground.phase }, { on := 4, ground := Ground.phase }, { on := 5, ground := Ground.phase }, { on := 6, ground := Ground.phase }, { on := 7, ground := Ground.phase }, { on := 8, ground := Ground.phase }, { on := 9, ground := Ground.phase }, { on := 10, ground := Ground.phase }, { on := 11, ground := Ground.phase }, { on := 12, ground := Ground.phase }, { on := 13, ground := Ground.phase }, { on := 14, ground := Ground.phase }, { on := 15, ground := Ground.phase }, { on := 16, ground := Ground.phase }, { on := 17, ground := Ground.phase }, { on := 18, ground := Ground.phase }, { on := 19, ground := Ground.phase }, { on := 20, ground := Ground.phase }, { on := 21, ground := Ground.phase }, { on := 22, ground := Ground.phase }, { on := 23, ground := Ground.phase }, { on := 24, ground := Ground.phase }, { on := 25, ground := Ground.phase }, { on := 26, ground := Ground.phase }, { on := 27, ground := Ground.phase }, { on := 28, ground := Ground.phase }, { on := 29, ground := Ground.phase }, { on := 30, ground := Ground.phase }, { on := 31, ground := Ground.phase }], guard := none }) (v := ?_) rfl (by kernel_rfl) (by kernel_rfl) (by kernel_rfl) (fun _ _ _ h => h) (Or.inl ⟨by rfl, ?_⟩) (by assumption) ?_
            rotate_left
            · intro w hSw
              try dsimp only at hSw
              clear hSw
              go_simp
              try (with_reducible rfl)
            try simp only [Act.put, List.setIfInBounds_toArray, List.set_cons_zero, List.set_cons_succ]
            refine wpAnyH_done (by kernel_rfl) ?_ _
            refine NoPanic.normal ?_
            go_wp2_with fail
            go_ret
            exact ⟨rfl, (HB0.out.trans (HBL.out.mono (by omega)))⟩
          · have z1 : ((ec1 : Int) != 0) = false := by rw [bne_eq_false_iff_eq]; omega
            have z2 : ((ec2 : Int) != 0) = true := by rw [bne_iff_ne]; omega
            have z3 : ((ec3 : Int) != 0) = false := by rw [bne_eq_false_iff_eq]; omega
            have z4 : ((ec4 : Int) != 0) = true := by rw [bne_iff_ne]; omega
            clear t1 t2 t3 t4
            go_wp2_with fail
            refine wp_region_noPanic ?_
            refine wp_region_held_drew (S := (fun w' => w'.heap[w.heap.size]? = some (.cells #[.int .u8 (x1.k : Int), .int .u8 (x1.n : Int), .int .u32 (x1.e : Int), .int .u32 (x1.l : Int), .int .u32 (x1.t : Int), .int .u32 (x1.g : Int), .int .u32 (x1.j : Int), .int .u32 (x1.v : Int), .int .u8 (x1.r : Int), .int .i64 x1.c, .int .u32 (x1.f : Int), .int .u32 (x1.o : Int), .slice A1 K1 C1] 25 (0, 0)) ∧ w'.heap[w.heap.size + 1]? = some (.cells #[.int .u8 (x2.k : Int), .int .u8 (x2.n : Int), .int .u32 (x2.e : Int), .int .u32 (x2.l : Int), .int .u32 (x2.t : Int), .int .u32 (x2.g : Int), .int .u32 (x2.j : Int), .int .u32 (x2.v : Int), .int .u8 (x2.r : Int), .int .i64 x2.c, .int .u32 (x2.f : Int), .int .u32 (x2.o : Int), .slice A2 K2 C2] 25 (0, 0)) ∧ w'.heap[w.heap.size + 1 + 1]? = some (.cells #[.int .u8 (y1.n : Int), .int .u32 (y1.e : Int), .int .u32 (y1.l : Int), .int .u32 (y1.s : Int), .int .u32 (y1.a : Int), .bool y1.p, .slice A3 K3 C3] 38 (0, 0)) ∧ w'.heap[w.heap.size + 1 + 1 + 1]? = some (.cells #[.int .u8 (y2.n : Int), .int .u32 (y2.e : Int), .int .u32 (y2.l : Int), .int .u32 (y2.s : Int), .int .u32 (y2.a : Int), .bool y2.p, .slice A4 K4 C4] 38 (0, 0)))) (by kernel_rfl) ?_ (fun hHeld => ?_)
            · exact ⟨HR0.out, HR1.out, HR2.out, HR3.out⟩
            refine wpAnyH_take (i := 0) (oi := { dst := some 71, op := Op.move (Operand.tmp 10), type := 27, pos := "law.go:151", after := #[], guard := none }) (v := ?_) rfl (by kernel_rfl) (by kernel_rfl) (by kernel_rfl) (fun _ _ _ h => h) (Or.inl ⟨by rfl, ?_⟩) (by assumption) ?_
            rotate_left
            · intro w hSw
              try dsimp only at hSw
              clear hSw
              go_simp
              try (with_reducible rfl)
            try simp only [Act.put, List.setIfInBounds_toArray, List.set_cons_zero, List.set_cons_succ]
            refine wpAnyH_take (i := 1) (oi := { dst := some 72, op := Op.binOp BinOp.neq 27 (Operand.tmp 71) (Operand.const (Value.int IntKind.i64 0)) 27, type := 4, pos := "law.go:151", after := #[{ on := 0, ground := Ground.data }], guard := none }) (v := ?_) rfl (by kernel_rfl) (by kernel_rfl) (by kernel_rfl) (fun _ _ _ h => h) (Or.inl ⟨by rfl, ?_⟩) (by assumption) ?_
            rotate_left
            · intro w hSw
              try dsimp only at hSw
              clear hSw
              go_simp
              try (with_reducible rfl)
            try simp only [Act.put, List.setIfInBounds_toArray, List.set_cons_zero, List.set_cons_succ]
            refine wpAnyH_take (i := 2) (oi := { dst := some 73, op := Op.move (Operand.tmp 72), type := 4, pos := "law.go:151", after := #[{ on := 1, ground := Ground.data }], guard := none }) (v := ?_) rfl (by kernel_rfl) (by kernel_rfl) (by kernel_rfl) (fun _ _ _ h => h) (Or.inl ⟨by rfl, ?_⟩) (by assumption) ?_
            rotate_left
            · intro w hSw
              try dsimp only at hSw
              clear hSw
              go_simp
              try (with_reducible rfl)
            try simp only [Act.put, List.setIfInBounds_toArray, List.set_cons_zero, List.set_cons_succ]
            refine wpAnyH_take (i := 3) (oi := { dst := some 74, op := Op.move (Operand.tmp 12), type := 27, pos := "law.go:151", after := #[{ on := 2, ground := Ground.guard }], guard := some (2, false) }) (v := ?_) rfl (by kernel_rfl) (by kernel_rfl) (by kernel_rfl) (fun _ _ _ h => h) (Or.inl ⟨by rfl, ?_⟩) (by assumption) ?_
            rotate_left
            · intro w hSw
              try dsimp only at hSw
              clear hSw
              go_simp
              try (with_reducible rfl)
            try simp only [Act.put, List.setIfInBounds_toArray, List.set_cons_zero, List.set_cons_succ]
            refine wpAnyH_take (i := 4) (oi := { dst := some 75, op := Op.binOp BinOp.neq 27 (Operand.tmp 74) (Operand.const (Value.int IntKind.i64 0)) 27, type := 4, pos := "law.go:151", after := #[{ on := 3, ground := Ground.data }, { on := 2, ground := Ground.guard }], guard := some (2, false) }) (v := ?_) rfl (by kernel_rfl) (by kernel_rfl) (by kernel_rfl) (fun _ _ _ h => h) (Or.inl ⟨by rfl, ?_⟩) (by assumption) ?_
            rotate_left
            · intro w hSw
              try dsimp only at hSw
              clear hSw
              go_simp
              try (with_reducible rfl)
            try simp only [Act.put, List.setIfInBounds_toArray, List.set_cons_zero, List.set_cons_succ]
            refine wpAnyH_take (i := 5) (oi := { dst := some 76, op := Op.pick (Operand.tmp 73) (Operand.const (Value.bool true)) (Operand.tmp 75), type := 4, pos := "law.go:151", after := #[{ on := 2, ground := Ground.data }, { on := 4, ground := Ground.data }], guard := none }) (v := ?_) rfl (by kernel_rfl) (by kernel_rfl) (by kernel_rfl) (fun _ _ _ h => h) (Or.inl ⟨by rfl, ?_⟩) (by assumption) ?_
            rotate_left
            · intro w hSw
              try dsimp only at hSw
              clear hSw
              go_simp
              try (with_reducible rfl)
            try simp only [Act.put, List.setIfInBounds_toArray, List.set_cons_zero, List.set_cons_succ]
            refine wpAnyH_take (i := 6) (oi := { dst := some 77, op := Op.move (Operand.tmp 76), type := 4, pos := "law.go:151", after := #[{ on := 5, ground := Ground.data }, { on := 2, ground := Ground.chain }], guard := none }) (v := ?_) rfl (by kernel_rfl) (by kernel_rfl) (by kernel_rfl) (fun _ _ _ h => h) (Or.inl ⟨by rfl, ?_⟩) (by assumption) ?_
            rotate_left
            · intro w hSw
              try dsimp only at hSw
              clear hSw
              go_simp
              try (with_reducible rfl)
            try simp only [Act.put, List.setIfInBounds_toArray, List.set_cons_zero, List.set_cons_succ]
            refine wpAnyH_take (i := 7) (oi := { dst := some 78, op := Op.move (Operand.tmp 9), type := 23, pos := "law.go:151", after := #[{ on := 6, ground := Ground.guard }], guard := some (6, false) }) (v := undef) rfl (by kernel_rfl) (by kernel_rfl) (by kernel_rfl) (fun _ _ _ h => h) (Or.inr ⟨by rfl, rfl⟩) (by assumption) ?_
            try simp only [Act.put, List.setIfInBounds_toArray, List.set_cons_zero, List.set_cons_succ]
            refine wpAnyH_take (i := 8) (oi := { dst := some 79, op := Op.move (Operand.tmp 11), type := 23, pos := "law.go:151", after := #[{ on := 6, ground := Ground.guard }], guard := some (6, false) }) (v := undef) rfl (by kernel_rfl) (by kernel_rfl) (by kernel_rfl) (fun _ _ _ h => h) (Or.inr ⟨by rfl, rfl⟩) (by assumption) ?_
            try simp only [Act.put, List.setIfInBounds_toArray, List.set_cons_zero, List.set_cons_succ]
            refine wpAnyH_take (i := 9) (oi := { dst := some 80, op := Op.call { callee := Callee.value (Operand.func 12), args := #[Operand.tmp 78, Operand.tmp 79], argTypes := #[23, 23] }, type := 4, pos := "law.go:151", after := #[{ on := 7, ground := Ground.data }, { on := 8, ground := Ground.data }, { on := 6, ground := Ground.chain }, { on := 6, ground := Ground.guard }], guard := some (6, false) }) (v := undef) rfl (by kernel_rfl) (by kernel_rfl) (by kernel_rfl) (fun _ _ _ h => h) (Or.inr ⟨by rfl, rfl⟩) (by assumption) ?_
            try simp only [Act.put, List.setIfInBounds_toArray, List.set_cons_zero, List.set_cons_succ]
            refine wpAnyH_take (i := 10) (oi := { dst := some 81, op := Op.load 25 (Operand.tmp 4), type := 25, pos := "law.go:151", after := #[{ on := 6, ground := Ground.guard }], guard := some (6, false) }) (v := undef) rfl (by kernel_rfl) (by kernel_rfl) (by kernel_rfl) (fun _ _ _ h => h) (Or.inr ⟨by rfl, rfl⟩) (by assumption) ?_
            try simp only [Act.put, List.setIfInBounds_toArray, List.set_cons_zero, List.set_cons_succ]
            refine wpAnyH_take (i := 11) (oi := { dst := some 82, op := Op.load 25 (Operand.tmp 5), type := 25, pos := "law.go:151", after := #[{ on := 6, ground := Ground.guard }], guard := some (6, false) }) (v := undef) rfl (by kernel_rfl) (by kernel_rfl) (by kernel_rfl) (fun _ _ _ h => h) (Or.inr ⟨by rfl, rfl⟩) (by assumption) ?_
            try simp only [Act.put, List.setIfInBounds_toArray, List.set_cons_zero, List.set_cons_succ]
            refine wpAnyH_take (i := 12) (oi := { dst := some 83, op := Op.call { callee := Callee.value (Operand.func 13), args := #[Operand.tmp 81, Operand.tmp 82], argTypes := #[25, 25] }, type := 4, pos := "law.go:151", after := #[{ on := 10, ground := Ground.data }, { on := 11, ground := Ground.data }, { on := 9, ground := Ground.chain }, { on := 6, ground := Ground.guard }], guard := some (6, false) }) (v := undef) rfl (by kernel_rfl) (by kernel_rfl) (by kernel_rfl) (fun _ _ _ h => h) (Or.inr ⟨by rfl, rfl⟩) (by assumption) ?_
            try simp only [Act.put, List.setIfInBounds_toArray, List.set_cons_zero, List.set_cons_succ]
            refine wpAnyH_take (i := 13) (oi := { dst := some 84, op := Op.binOp BinOp.eql 4 (Operand.tmp 80) (Operand.tmp 83) 4, type := 4, pos := "law.go:151", after := #[{ on := 9, ground := Ground.data }, { on := 12, ground := Ground.data }, { on := 6, ground := Ground.guard }], guard := some (6, false) }) (v := undef) rfl (by kernel_rfl) (by kernel_rfl) (by kernel_rfl) (fun _ _ _ h => h) (Or.inr ⟨by rfl, rfl⟩) (by assumption) ?_
            try simp only [Act.put, List.setIfInBounds_toArray, List.set_cons_zero, List.set_cons_succ]
            refine wpAnyH_take (i := 14) (oi := { dst := some 85, op := Op.pick (Operand.tmp 77) (Operand.const (Value.bool true)) (Operand.tmp 84), type := 4, pos := "law.go:151", after := #[{ on := 6, ground := Ground.data }, { on := 13, ground := Ground.data }], guard := none }) (v := ?_) rfl (by kernel_rfl) (by kernel_rfl) (by kernel_rfl) (fun _ _ _ h => h) (Or.inl ⟨by rfl, ?_⟩) (by assumption) ?_
            rotate_left
            · intro w hSw
              try dsimp only at hSw
              clear hSw
              go_simp
              try (with_reducible rfl)
            try simp only [Act.put, List.setIfInBounds_toArray, List.set_cons_zero, List.set_cons_succ]
            refine wpAnyH_take (i := 15) (oi := { dst := some 86, op := Op.move (Operand.tmp 85), type := 4, pos := "law.go:151", after := #[{ on := 14, ground := Ground.data }, { on := 12, ground := Ground.chain }], guard := none }) (v := ?_) rfl (by kernel_rfl) (by kernel_rfl) (by kernel_rfl) (fun _ _ _ h => h) (Or.inl ⟨by rfl, ?_⟩) (by assumption) ?_
            rotate_left
            · intro w hSw
              try dsimp only at hSw
              clear hSw
              go_simp
              try (with_reducible rfl)
            try simp only [Act.put, List.setIfInBounds_toArray, List.set_cons_zero, List.set_cons_succ]
            refine wpAnyH_take (i := 16) (oi := { dst := some 87, op := Op.move (Operand.tmp 14), type := 27, pos := "law.go:151", after := #[{ on := 15, ground := Ground.guard }], guard := some (15, true) }) (v := ?_) rfl (by kernel_rfl) (by kernel_rfl) (by kernel_rfl) (fun _ _ _ h => h) (Or.inl ⟨by rfl, ?_⟩) (by assumption) ?_
            rotate_left
            · intro w hSw
              try dsimp only at hSw
              clear hSw
              go_simp
              try (with_reducible rfl)
            try simp only [Act.put, List.setIfInBounds_toArray, List.set_cons_zero, List.set_cons_succ]
            refine wpAnyH_take (i := 17) (oi := { dst := some 88, op := Op.binOp BinOp.neq 27 (Operand.tmp 87) (Operand.const (Value.int IntKind.i64 0)) 27, type := 4, pos := "law.go:151", after := #[{ on := 16, ground := Ground.data }, { on := 15, ground := Ground.guard }], guard := some (15, true) }) (v := ?_) rfl (by kernel_rfl) (by kernel_rfl) (by kernel_rfl) (fun _ _ _ h => h) (Or.inl ⟨by rfl, ?_⟩) (by assumption) ?_
            rotate_left
            · intro w hSw
              try dsimp only at hSw
              clear hSw
              go_simp
              try (with_reducible rfl)
            try simp only [Act.put, List.setIfInBounds_toArray, List.set_cons_zero, List.set_cons_succ]
            refine wpAnyH_take (i := 18) (oi := { dst := some 89, op := Op.move (Operand.tmp 88), type := 4, pos := "law.go:151", after := #[{ on := 17, ground := Ground.data }, { on := 15, ground := Ground.chain }, { on := 15, ground := Ground.guard }], guard := some (15, true) }) (v := ?_) rfl (by kernel_rfl) (by kernel_rfl) (by kernel_rfl) (fun _ _ _ h => h) (Or.inl ⟨by rfl, ?_⟩) (by assumption) ?_
            rotate_left
            · intro w hSw
              try dsimp only at hSw
              clear hSw
              go_simp
              try (with_reducible rfl)
            try simp only [Act.put, List.setIfInBounds_toArray, List.set_cons_zero, List.set_cons_succ]
            refine wpAnyH_take (i := 19) (oi := { dst := some 90, op := Op.move (Operand.tmp 16), type := 27, pos := "law.go:151", after := #[{ on := 18, ground := Ground.guard }], guard := some (18, false) }) (v := ?_) rfl (by kernel_rfl) (by kernel_rfl) (by kernel_rfl) (fun _ _ _ h => h) (Or.inl ⟨by rfl, ?_⟩) (by assumption) ?_
            rotate_left
            · intro w hSw
              try dsimp only at hSw
              clear hSw
              go_simp
              try (with_reducible rfl)
            try simp only [Act.put, List.setIfInBounds_toArray, List.set_cons_zero, List.set_cons_succ]
            refine wpAnyH_take (i := 20) (oi := { dst := some 91, op := Op.binOp BinOp.neq 27 (Operand.tmp 90) (Operand.const (Value.int IntKind.i64 0)) 27, type := 4, pos := "law.go:151", after := #[{ on := 19, ground := Ground.data }, { on := 18, ground := Ground.guard }], guard := some (18, false) }) (v := ?_) rfl (by kernel_rfl) (by kernel_rfl) (by kernel_rfl) (fun _ _ _ h => h) (Or.inl ⟨by rfl, ?_⟩) (by assumption) ?_
            rotate_left
            · intro w hSw
              try dsimp only at hSw
              clear hSw
              go_simp
              try (with_reducible rfl)
            try simp only [Act.put, List.setIfInBounds_toArray, List.set_cons_zero, List.set_cons_succ]
            refine wpAnyH_take (i := 21) (oi := { dst := some 92, op := Op.pick (Operand.tmp 89) (Operand.const (Value.bool true)) (Operand.tmp 91), type := 4, pos := "law.go:151", after := #[{ on := 18, ground := Ground.data }, { on := 20, ground := Ground.data }, { on := 15, ground := Ground.guard }], guard := some (15, true) }) (v := ?_) rfl (by kernel_rfl) (by kernel_rfl) (by kernel_rfl) (fun _ _ _ h => h) (Or.inl ⟨by rfl, ?_⟩) (by assumption) ?_
            rotate_left
            · intro w hSw
              try dsimp only at hSw
              clear hSw
              go_simp
              try (with_reducible rfl)
            try simp only [Act.put, List.setIfInBounds_toArray, List.set_cons_zero, List.set_cons_succ]
            refine wpAnyH_take (i := 22) (oi := { dst := some 93, op := Op.move (Operand.tmp 92), type := 4, pos := "law.go:151", after := #[{ on := 21, ground := Ground.data }, { on := 18, ground := Ground.chain }, { on := 15, ground := Ground.guard }], guard := some (15, true) }) (v := ?_) rfl (by kernel_rfl) (by kernel_rfl) (by kernel_rfl) (fun _ _ _ h => h) (Or.inl ⟨by rfl, ?_⟩) (by assumption) ?_
            rotate_left
            · intro w hSw
              try dsimp only at hSw
              clear hSw
              go_simp
              try (with_reducible rfl)
            try simp only [Act.put, List.setIfInBounds_toArray, List.set_cons_zero, List.set_cons_succ]
            refine wpAnyH_take (i := 23) (oi := { dst := some 94, op := Op.move (Operand.tmp 13), type := 23, pos := "law.go:151", after := #[{ on := 22, ground := Ground.guard }], guard := some (22, false) }) (v := undef) rfl (by kernel_rfl) (by kernel_rfl) (by kernel_rfl) (fun _ _ _ h => h) (Or.inr ⟨by rfl, rfl⟩) (by assumption) ?_
            try simp only [Act.put, List.setIfInBounds_toArray, List.set_cons_zero, List.set_cons_succ]
            refine wpAnyH_take (i := 24) (oi := { dst := some 95, op := Op.move (Operand.tmp 15), type := 23, pos := "law.go:151", after := #[{ on := 22, ground := Ground.guard }], guard := some (22, false) }) (v := undef) rfl (by kernel_rfl) (by kernel_rfl) (by kernel_rfl) (fun _ _ _ h => h) (Or.inr ⟨by rfl, rfl⟩) (by assumption) ?_
            try simp only [Act.put, List.setIfInBounds_toArray, List.set_cons_zero, List.set_cons_succ]
            refine wpAnyH_take (i := 25) (oi := { dst := some 96, op := Op.call { callee := Callee.value (Operand.func 12), args := #[Operand.tmp 94, Operand.tmp 95], argTypes := #[23, 23] }, type := 4, pos := "law.go:151", after := #[{ on := 23, ground := Ground.data }, { on := 24, ground := Ground.data }, { on := 22, ground := Ground.chain }, { on := 22, ground := Ground.guard }], guard := some (22, false) }) (v := undef) rfl (by kernel_rfl) (by kernel_rfl) (by kernel_rfl) (fun _ _ _ h => h) (Or.inr ⟨by rfl, rfl⟩) (by assumption) ?_
            try simp only [Act.put, List.setIfInBounds_toArray, List.set_cons_zero, List.set_cons_succ]
            refine wpAnyH_take (i := 26) (oi := { dst := some 97, op := Op.load 38 (Operand.tmp 6), type := 38, pos := "law.go:151", after := #[{ on := 22, ground := Ground.guard }], guard := some (22, false) }) (v := undef) rfl (by kernel_rfl) (by kernel_rfl) (by kernel_rfl) (fun _ _ _ h => h) (Or.inr ⟨by rfl, rfl⟩) (by assumption) ?_
            try simp only [Act.put, List.setIfInBounds_toArray, List.set_cons_zero, List.set_cons_succ]
            refine wpAnyH_take (i := 27) (oi := { dst := some 98, op := Op.load 38 (Operand.tmp 7), type := 38, pos := "law.go:151", after := #[{ on := 22, ground := Ground.guard }], guard := some (22, false) }) (v := undef) rfl (by kernel_rfl) (by kernel_rfl) (by kernel_rfl) (fun _ _ _ h => h) (Or.inr ⟨by rfl, rfl⟩) (by assumption) ?_
            try simp only [Act.put, List.setIfInBounds_toArray, List.set_cons_zero, List.set_cons_succ]
            refine wpAnyH_take (i := 28) (oi := { dst := some 99, op := Op.call { callee := Callee.value (Operand.func 17), args := #[Operand.tmp 97, Operand.tmp 98], argTypes := #[38, 38] }, type := 4, pos := "law.go:151", after := #[{ on := 26, ground := Ground.data }, { on := 27, ground := Ground.data }, { on := 25, ground := Ground.chain }, { on := 22, ground := Ground.guard }], guard := some (22, false) }) (v := undef) rfl (by kernel_rfl) (by kernel_rfl) (by kernel_rfl) (fun _ _ _ h => h) (Or.inr ⟨by rfl, rfl⟩) (by assumption) ?_
            try simp only [Act.put, List.setIfInBounds_toArray, List.set_cons_zero, List.set_cons_succ]
            refine wpAnyH_take (i := 29) (oi := { dst := some 100, op := Op.binOp BinOp.eql 4 (Operand.tmp 96) (Operand.tmp 99) 4, type := 4, pos := "law.go:151", after := #[{ on := 25, ground := Ground.data }, { on := 28, ground := Ground.data }, { on := 22, ground := Ground.guard }], guard := some (22, false) }) (v := undef) rfl (by kernel_rfl) (by kernel_rfl) (by kernel_rfl) (fun _ _ _ h => h) (Or.inr ⟨by rfl, rfl⟩) (by assumption) ?_
            try simp only [Act.put, List.setIfInBounds_toArray, List.set_cons_zero, List.set_cons_succ]
            refine wpAnyH_take (i := 30) (oi := { dst := some 101, op := Op.pick (Operand.tmp 93) (Operand.const (Value.bool true)) (Operand.tmp 100), type := 4, pos := "law.go:151", after := #[{ on := 22, ground := Ground.data }, { on := 29, ground := Ground.data }, { on := 15, ground := Ground.guard }], guard := some (15, true) }) (v := ?_) rfl (by kernel_rfl) (by kernel_rfl) (by kernel_rfl) (fun _ _ _ h => h) (Or.inl ⟨by rfl, ?_⟩) (by assumption) ?_
            rotate_left
            · intro w hSw
              try dsimp only at hSw
              clear hSw
              go_simp
              try (with_reducible rfl)
            try simp only [Act.put, List.setIfInBounds_toArray, List.set_cons_zero, List.set_cons_succ]
            refine wpAnyH_take (i := 31) (oi := { dst := some 102, op := Op.pick (Operand.tmp 86) (Operand.tmp 101) (Operand.const (Value.bool false)), type := 4, pos := "law.go:151", after := #[{ on := 15, ground := Ground.data }, { on := 30, ground := Ground.data }], guard := none }) (v := ?_) rfl (by kernel_rfl) (by kernel_rfl) (by kernel_rfl) (fun _ _ _ h => h) (Or.inl ⟨by rfl, ?_⟩) (by assumption) ?_
            rotate_left
            · intro w hSw
              try dsimp only at hSw
              clear hSw
              go_simp
              try (with_reducible rfl)
            try simp only [Act.put, List.setIfInBounds_toArray, List.set_cons_zero, List.set_cons_succ]
            refine wpAnyH_take (i := 32) (oi := { dst := some 8, op := Op.assign (Operand.tmp 102), type := 4, pos := "law.go:151", after := #[{ on := 31, ground := Ground.data }, { on := 28, ground := Ground.chain }, { on := 0, ground := Ground.phase }, { on := 1, ground := Ground.phase }, { on := 2, ground := Ground.phase }, { on := 3, ground := Ground.phase }, { on := 4, ground := Ground.phase }, { on := 5, ground := Ground.phase }, { on := 6, ground := Ground.phase }, { on := 7, ground := Ground.phase }, { on := 8, ground := Ground.phase }, { on := 9, ground := Ground.phase }, { on := 10, ground := Ground.phase }, { on := 11, ground := Ground.phase }, { on := 12, ground := Ground.phase }, { on := 13, ground := Ground.phase }, { on := 14, ground := Ground.phase }, { on := 15, ground := Ground.phase }, { on := 16, ground := Ground.phase }, { on := 17, ground := Ground.phase }, { on := 18, ground := Ground.phase }, { on := 19, ground := Ground.phase }, { on := 20, ground := Ground.phase }, { on := 21, ground := Ground.phase }, { on := 22, ground := Ground.phase }, { on := 23, ground := Ground.phase }, { on := 24, ground := Ground.phase }, { on := 25, ground := Ground.phase }, { on := 26, ground := Ground.phase }, { on := 27, ground := Ground.phase }, { on := 28, ground := Ground.phase }, { on := 29, ground := Ground.phase }, { on := 30, ground := Ground.phase }, { on := 31, ground := Ground.phase }], guard := none }) (v := ?_) rfl (by kernel_rfl) (by kernel_rfl) (by kernel_rfl) (fun _ _ _ h => h) (Or.inl ⟨by rfl, ?_⟩) (by assumption) ?_
            rotate_left
            · intro w hSw
              try dsimp only at hSw
              clear hSw
              go_simp
              try (with_reducible rfl)
            try simp only [Act.put, List.setIfInBounds_toArray, List.set_cons_zero, List.set_cons_succ]
            refine wpAnyH_done (by kernel_rfl) ?_ _
            refine NoPanic.normal ?_
            go_wp2_with fail
            go_ret
            exact ⟨rfl, (below_dr HB0.out)⟩
        · have z1 : ((ec1 : Int) != 0) = false := by rw [bne_eq_false_iff_eq]; omega
          have z2 : ((ec2 : Int) != 0) = true := by rw [bne_iff_ne]; omega
          have z3 : ((ec3 : Int) != 0) = true := by rw [bne_iff_ne]; omega
          clear t1 t2 t3 
          go_wp2_with fail
          refine wp_region_noPanic ?_
          refine wp_region_held_drew (S := (fun w' => w'.heap[w.heap.size]? = some (.cells #[.int .u8 (x1.k : Int), .int .u8 (x1.n : Int), .int .u32 (x1.e : Int), .int .u32 (x1.l : Int), .int .u32 (x1.t : Int), .int .u32 (x1.g : Int), .int .u32 (x1.j : Int), .int .u32 (x1.v : Int), .int .u8 (x1.r : Int), .int .i64 x1.c, .int .u32 (x1.f : Int), .int .u32 (x1.o : Int), .slice A1 K1 C1] 25 (0, 0)) ∧ w'.heap[w.heap.size + 1]? = some (.cells #[.int .u8 (x2.k : Int), .int .u8 (x2.n : Int), .int .u32 (x2.e : Int), .int .u32 (x2.l : Int), .int .u32 (x2.t : Int), .int .u32 (x2.g : Int), .int .u32 (x2.j : Int), .int .u32 (x2.v : Int), .int .u8 (x2.r : Int), .int .i64 x2.c, .int .u32 (x2.f : Int), .int .u32 (x2.o : Int), .slice A2 K2 C2] 25 (0, 0)) ∧ w'.heap[w.heap.size + 1 + 1]? = some (.cells #[.int .u8 (y1.n : Int), .int .u32 (y1.e : Int), .int .u32 (y1.l : Int), .int .u32 (y1.s : Int), .int .u32 (y1.a : Int), .bool y1.p, .slice A3 K3 C3] 38 (0, 0)) ∧ w'.heap[w.heap.size + 1 + 1 + 1]? = some (.cells #[.int .u8 (y2.n : Int), .int .u32 (y2.e : Int), .int .u32 (y2.l : Int), .int .u32 (y2.s : Int), .int .u32 (y2.a : Int), .bool y2.p, .slice A4 K4 C4] 38 (0, 0)))) (by kernel_rfl) ?_ (fun hHeld => ?_)
          · exact ⟨HR0.out, HR1.out, HR2.out, HR3.out⟩
          refine wpAnyH_take (i := 0) (oi := { dst := some 71, op := Op.move (Operand.tmp 10), type := 27, pos := "law.go:151", after := #[], guard := none }) (v := ?_) rfl (by kernel_rfl) (by kernel_rfl) (by kernel_rfl) (fun _ _ _ h => h) (Or.inl ⟨by rfl, ?_⟩) (by assumption) ?_
          rotate_left
          · intro w hSw
            try dsimp only at hSw
            clear hSw
            go_simp
            try (with_reducible rfl)
          try simp only [Act.put, List.setIfInBounds_toArray, List.set_cons_zero, List.set_cons_succ]
          refine wpAnyH_take (i := 1) (oi := { dst := some 72, op := Op.binOp BinOp.neq 27 (Operand.tmp 71) (Operand.const (Value.int IntKind.i64 0)) 27, type := 4, pos := "law.go:151", after := #[{ on := 0, ground := Ground.data }], guard := none }) (v := ?_) rfl (by kernel_rfl) (by kernel_rfl) (by kernel_rfl) (fun _ _ _ h => h) (Or.inl ⟨by rfl, ?_⟩) (by assumption) ?_
          rotate_left
          · intro w hSw
            try dsimp only at hSw
            clear hSw
            go_simp
            try (with_reducible rfl)
          try simp only [Act.put, List.setIfInBounds_toArray, List.set_cons_zero, List.set_cons_succ]
          refine wpAnyH_take (i := 2) (oi := { dst := some 73, op := Op.move (Operand.tmp 72), type := 4, pos := "law.go:151", after := #[{ on := 1, ground := Ground.data }], guard := none }) (v := ?_) rfl (by kernel_rfl) (by kernel_rfl) (by kernel_rfl) (fun _ _ _ h => h) (Or.inl ⟨by rfl, ?_⟩) (by assumption) ?_
          rotate_left
          · intro w hSw
            try dsimp only at hSw
            clear hSw
            go_simp
            try (with_reducible rfl)
          try simp only [Act.put, List.setIfInBounds_toArray, List.set_cons_zero, List.set_cons_succ]
          refine wpAnyH_take (i := 3) (oi := { dst := some 74, op := Op.move (Operand.tmp 12), type := 27, pos := "law.go:151", after := #[{ on := 2, ground := Ground.guard }], guard := some (2, false) }) (v := ?_) rfl (by kernel_rfl) (by kernel_rfl) (by kernel_rfl) (fun _ _ _ h => h) (Or.inl ⟨by rfl, ?_⟩) (by assumption) ?_
          rotate_left
          · intro w hSw
            try dsimp only at hSw
            clear hSw
            go_simp
            try (with_reducible rfl)
          try simp only [Act.put, List.setIfInBounds_toArray, List.set_cons_zero, List.set_cons_succ]
          refine wpAnyH_take (i := 4) (oi := { dst := some 75, op := Op.binOp BinOp.neq 27 (Operand.tmp 74) (Operand.const (Value.int IntKind.i64 0)) 27, type := 4, pos := "law.go:151", after := #[{ on := 3, ground := Ground.data }, { on := 2, ground := Ground.guard }], guard := some (2, false) }) (v := ?_) rfl (by kernel_rfl) (by kernel_rfl) (by kernel_rfl) (fun _ _ _ h => h) (Or.inl ⟨by rfl, ?_⟩) (by assumption) ?_
          rotate_left
          · intro w hSw
            try dsimp only at hSw
            clear hSw
            go_simp
            try (with_reducible rfl)
          try simp only [Act.put, List.setIfInBounds_toArray, List.set_cons_zero, List.set_cons_succ]
          refine wpAnyH_take (i := 5) (oi := { dst := some 76, op := Op.pick (Operand.tmp 73) (Operand.const (Value.bool true)) (Operand.tmp 75), type := 4, pos := "law.go:151", after := #[{ on := 2, ground := Ground.data }, { on := 4, ground := Ground.data }], guard := none }) (v := ?_) rfl (by kernel_rfl) (by kernel_rfl) (by kernel_rfl) (fun _ _ _ h => h) (Or.inl ⟨by rfl, ?_⟩) (by assumption) ?_
          rotate_left
          · intro w hSw
            try dsimp only at hSw
            clear hSw
            go_simp
            try (with_reducible rfl)
          try simp only [Act.put, List.setIfInBounds_toArray, List.set_cons_zero, List.set_cons_succ]
          refine wpAnyH_take (i := 6) (oi := { dst := some 77, op := Op.move (Operand.tmp 76), type := 4, pos := "law.go:151", after := #[{ on := 5, ground := Ground.data }, { on := 2, ground := Ground.chain }], guard := none }) (v := ?_) rfl (by kernel_rfl) (by kernel_rfl) (by kernel_rfl) (fun _ _ _ h => h) (Or.inl ⟨by rfl, ?_⟩) (by assumption) ?_
          rotate_left
          · intro w hSw
            try dsimp only at hSw
            clear hSw
            go_simp
            try (with_reducible rfl)
          try simp only [Act.put, List.setIfInBounds_toArray, List.set_cons_zero, List.set_cons_succ]
          refine wpAnyH_take (i := 7) (oi := { dst := some 78, op := Op.move (Operand.tmp 9), type := 23, pos := "law.go:151", after := #[{ on := 6, ground := Ground.guard }], guard := some (6, false) }) (v := undef) rfl (by kernel_rfl) (by kernel_rfl) (by kernel_rfl) (fun _ _ _ h => h) (Or.inr ⟨by rfl, rfl⟩) (by assumption) ?_
          try simp only [Act.put, List.setIfInBounds_toArray, List.set_cons_zero, List.set_cons_succ]
          refine wpAnyH_take (i := 8) (oi := { dst := some 79, op := Op.move (Operand.tmp 11), type := 23, pos := "law.go:151", after := #[{ on := 6, ground := Ground.guard }], guard := some (6, false) }) (v := undef) rfl (by kernel_rfl) (by kernel_rfl) (by kernel_rfl) (fun _ _ _ h => h) (Or.inr ⟨by rfl, rfl⟩) (by assumption) ?_
          try simp only [Act.put, List.setIfInBounds_toArray, List.set_cons_zero, List.set_cons_succ]
          refine wpAnyH_take (i := 9) (oi := { dst := some 80, op := Op.call { callee := Callee.value (Operand.func 12), args := #[Operand.tmp 78, Operand.tmp 79], argTypes := #[23, 23] }, type := 4, pos := "law.go:151", after := #[{ on := 7, ground := Ground.data }, { on := 8, ground := Ground.data }, { on := 6, ground := Ground.chain }, { on := 6, ground := Ground.guard }], guard := some (6, false) }) (v := undef) rfl (by kernel_rfl) (by kernel_rfl) (by kernel_rfl) (fun _ _ _ h => h) (Or.inr ⟨by rfl, rfl⟩) (by assumption) ?_
          try simp only [Act.put, List.setIfInBounds_toArray, List.set_cons_zero, List.set_cons_succ]
          refine wpAnyH_take (i := 10) (oi := { dst := some 81, op := Op.load 25 (Operand.tmp 4), type := 25, pos := "law.go:151", after := #[{ on := 6, ground := Ground.guard }], guard := some (6, false) }) (v := undef) rfl (by kernel_rfl) (by kernel_rfl) (by kernel_rfl) (fun _ _ _ h => h) (Or.inr ⟨by rfl, rfl⟩) (by assumption) ?_
          try simp only [Act.put, List.setIfInBounds_toArray, List.set_cons_zero, List.set_cons_succ]
          refine wpAnyH_take (i := 11) (oi := { dst := some 82, op := Op.load 25 (Operand.tmp 5), type := 25, pos := "law.go:151", after := #[{ on := 6, ground := Ground.guard }], guard := some (6, false) }) (v := undef) rfl (by kernel_rfl) (by kernel_rfl) (by kernel_rfl) (fun _ _ _ h => h) (Or.inr ⟨by rfl, rfl⟩) (by assumption) ?_
          try simp only [Act.put, List.setIfInBounds_toArray, List.set_cons_zero, List.set_cons_succ]
          refine wpAnyH_take (i := 12) (oi := { dst := some 83, op := Op.call { callee := Callee.value (Operand.func 13), args := #[Operand.tmp 81, Operand.tmp 82], argTypes := #[25, 25] }, type := 4, pos := "law.go:151", after := #[{ on := 10, ground := Ground.data }, { on := 11, ground := Ground.data }, { on := 9, ground := Ground.chain }, { on := 6, ground := Ground.guard }], guard := some (6, false) }) (v := undef) rfl (by kernel_rfl) (by kernel_rfl) (by kernel_rfl) (fun _ _ _ h => h) (Or.inr ⟨by rfl, rfl⟩) (by assumption) ?_
          try simp only [Act.put, List.setIfInBounds_toArray, List.set_cons_zero, List.set_cons_succ]
          refine wpAnyH_take (i := 13) (oi := { dst := some 84, op := Op.binOp BinOp.eql 4 (Operand.tmp 80) (Operand.tmp 83) 4, type := 4, pos := "law.go:151", after := #[{ on := 9, ground := Ground.data }, { on := 12, ground := Ground.data }, { on := 6, ground := Ground.guard }], guard := some (6, false) }) (v := undef) rfl (by kernel_rfl) (by kernel_rfl) (by kernel_rfl) (fun _ _ _ h => h) (Or.inr ⟨by rfl, rfl⟩) (by assumption) ?_
          try simp only [Act.put, List.setIfInBounds_toArray, List.set_cons_zero, List.set_cons_succ]
          refine wpAnyH_take (i := 14) (oi := { dst := some 85, op := Op.pick (Operand.tmp 77) (Operand.const (Value.bool true)) (Operand.tmp 84), type := 4, pos := "law.go:151", after := #[{ on := 6, ground := Ground.data }, { on := 13, ground := Ground.data }], guard := none }) (v := ?_) rfl (by kernel_rfl) (by kernel_rfl) (by kernel_rfl) (fun _ _ _ h => h) (Or.inl ⟨by rfl, ?_⟩) (by assumption) ?_
          rotate_left
          · intro w hSw
            try dsimp only at hSw
            clear hSw
            go_simp
            try (with_reducible rfl)
          try simp only [Act.put, List.setIfInBounds_toArray, List.set_cons_zero, List.set_cons_succ]
          refine wpAnyH_take (i := 15) (oi := { dst := some 86, op := Op.move (Operand.tmp 85), type := 4, pos := "law.go:151", after := #[{ on := 14, ground := Ground.data }, { on := 12, ground := Ground.chain }], guard := none }) (v := ?_) rfl (by kernel_rfl) (by kernel_rfl) (by kernel_rfl) (fun _ _ _ h => h) (Or.inl ⟨by rfl, ?_⟩) (by assumption) ?_
          rotate_left
          · intro w hSw
            try dsimp only at hSw
            clear hSw
            go_simp
            try (with_reducible rfl)
          try simp only [Act.put, List.setIfInBounds_toArray, List.set_cons_zero, List.set_cons_succ]
          refine wpAnyH_take (i := 16) (oi := { dst := some 87, op := Op.move (Operand.tmp 14), type := 27, pos := "law.go:151", after := #[{ on := 15, ground := Ground.guard }], guard := some (15, true) }) (v := ?_) rfl (by kernel_rfl) (by kernel_rfl) (by kernel_rfl) (fun _ _ _ h => h) (Or.inl ⟨by rfl, ?_⟩) (by assumption) ?_
          rotate_left
          · intro w hSw
            try dsimp only at hSw
            clear hSw
            go_simp
            try (with_reducible rfl)
          try simp only [Act.put, List.setIfInBounds_toArray, List.set_cons_zero, List.set_cons_succ]
          refine wpAnyH_take (i := 17) (oi := { dst := some 88, op := Op.binOp BinOp.neq 27 (Operand.tmp 87) (Operand.const (Value.int IntKind.i64 0)) 27, type := 4, pos := "law.go:151", after := #[{ on := 16, ground := Ground.data }, { on := 15, ground := Ground.guard }], guard := some (15, true) }) (v := ?_) rfl (by kernel_rfl) (by kernel_rfl) (by kernel_rfl) (fun _ _ _ h => h) (Or.inl ⟨by rfl, ?_⟩) (by assumption) ?_
          rotate_left
          · intro w hSw
            try dsimp only at hSw
            clear hSw
            go_simp
            try (with_reducible rfl)
          try simp only [Act.put, List.setIfInBounds_toArray, List.set_cons_zero, List.set_cons_succ]
          refine wpAnyH_take (i := 18) (oi := { dst := some 89, op := Op.move (Operand.tmp 88), type := 4, pos := "law.go:151", after := #[{ on := 17, ground := Ground.data }, { on := 15, ground := Ground.chain }, { on := 15, ground := Ground.guard }], guard := some (15, true) }) (v := ?_) rfl (by kernel_rfl) (by kernel_rfl) (by kernel_rfl) (fun _ _ _ h => h) (Or.inl ⟨by rfl, ?_⟩) (by assumption) ?_
          rotate_left
          · intro w hSw
            try dsimp only at hSw
            clear hSw
            go_simp
            try (with_reducible rfl)
          try simp only [Act.put, List.setIfInBounds_toArray, List.set_cons_zero, List.set_cons_succ]
          refine wpAnyH_take (i := 19) (oi := { dst := some 90, op := Op.move (Operand.tmp 16), type := 27, pos := "law.go:151", after := #[{ on := 18, ground := Ground.guard }], guard := some (18, false) }) (v := undef) rfl (by kernel_rfl) (by kernel_rfl) (by kernel_rfl) (fun _ _ _ h => h) (Or.inr ⟨by rfl, rfl⟩) (by assumption) ?_
          try simp only [Act.put, List.setIfInBounds_toArray, List.set_cons_zero, List.set_cons_succ]
          refine wpAnyH_take (i := 20) (oi := { dst := some 91, op := Op.binOp BinOp.neq 27 (Operand.tmp 90) (Operand.const (Value.int IntKind.i64 0)) 27, type := 4, pos := "law.go:151", after := #[{ on := 19, ground := Ground.data }, { on := 18, ground := Ground.guard }], guard := some (18, false) }) (v := undef) rfl (by kernel_rfl) (by kernel_rfl) (by kernel_rfl) (fun _ _ _ h => h) (Or.inr ⟨by rfl, rfl⟩) (by assumption) ?_
          try simp only [Act.put, List.setIfInBounds_toArray, List.set_cons_zero, List.set_cons_succ]
          refine wpAnyH_take (i := 21) (oi := { dst := some 92, op := Op.pick (Operand.tmp 89) (Operand.const (Value.bool true)) (Operand.tmp 91), type := 4, pos := "law.go:151", after := #[{ on := 18, ground := Ground.data }, { on := 20, ground := Ground.data }, { on := 15, ground := Ground.guard }], guard := some (15, true) }) (v := ?_) rfl (by kernel_rfl) (by kernel_rfl) (by kernel_rfl) (fun _ _ _ h => h) (Or.inl ⟨by rfl, ?_⟩) (by assumption) ?_
          rotate_left
          · intro w hSw
            try dsimp only at hSw
            clear hSw
            go_simp
            try (with_reducible rfl)
          try simp only [Act.put, List.setIfInBounds_toArray, List.set_cons_zero, List.set_cons_succ]
          refine wpAnyH_take (i := 22) (oi := { dst := some 93, op := Op.move (Operand.tmp 92), type := 4, pos := "law.go:151", after := #[{ on := 21, ground := Ground.data }, { on := 18, ground := Ground.chain }, { on := 15, ground := Ground.guard }], guard := some (15, true) }) (v := ?_) rfl (by kernel_rfl) (by kernel_rfl) (by kernel_rfl) (fun _ _ _ h => h) (Or.inl ⟨by rfl, ?_⟩) (by assumption) ?_
          rotate_left
          · intro w hSw
            try dsimp only at hSw
            clear hSw
            go_simp
            try (with_reducible rfl)
          try simp only [Act.put, List.setIfInBounds_toArray, List.set_cons_zero, List.set_cons_succ]
          refine wpAnyH_take (i := 23) (oi := { dst := some 94, op := Op.move (Operand.tmp 13), type := 23, pos := "law.go:151", after := #[{ on := 22, ground := Ground.guard }], guard := some (22, false) }) (v := undef) rfl (by kernel_rfl) (by kernel_rfl) (by kernel_rfl) (fun _ _ _ h => h) (Or.inr ⟨by rfl, rfl⟩) (by assumption) ?_
          try simp only [Act.put, List.setIfInBounds_toArray, List.set_cons_zero, List.set_cons_succ]
          refine wpAnyH_take (i := 24) (oi := { dst := some 95, op := Op.move (Operand.tmp 15), type := 23, pos := "law.go:151", after := #[{ on := 22, ground := Ground.guard }], guard := some (22, false) }) (v := undef) rfl (by kernel_rfl) (by kernel_rfl) (by kernel_rfl) (fun _ _ _ h => h) (Or.inr ⟨by rfl, rfl⟩) (by assumption) ?_
          try simp only [Act.put, List.setIfInBounds_toArray, List.set_cons_zero, List.set_cons_succ]
          refine wpAnyH_take (i := 25) (oi := { dst := some 96, op := Op.call { callee := Callee.value (Operand.func 12), args := #[Operand.tmp 94, Operand.tmp 95], argTypes := #[23, 23] }, type := 4, pos := "law.go:151", after := #[{ on := 23, ground := Ground.data }, { on := 24, ground := Ground.data }, { on := 22, ground := Ground.chain }, { on := 22, ground := Ground.guard }], guard := some (22, false) }) (v := undef) rfl (by kernel_rfl) (by kernel_rfl) (by kernel_rfl) (fun _ _ _ h => h) (Or.inr ⟨by rfl, rfl⟩) (by assumption) ?_
          try simp only [Act.put, List.setIfInBounds_toArray, List.set_cons_zero, List.set_cons_succ]
          refine wpAnyH_take (i := 26) (oi := { dst := some 97, op := Op.load 38 (Operand.tmp 6), type := 38, pos := "law.go:151", after := #[{ on := 22, ground := Ground.guard }], guard := some (22, false) }) (v := undef) rfl (by kernel_rfl) (by kernel_rfl) (by kernel_rfl) (fun _ _ _ h => h) (Or.inr ⟨by rfl, rfl⟩) (by assumption) ?_
          try simp only [Act.put, List.setIfInBounds_toArray, List.set_cons_zero, List.set_cons_succ]
          refine wpAnyH_take (i := 27) (oi := { dst := some 98, op := Op.load 38 (Operand.tmp 7), type := 38, pos := "law.go:151", after := #[{ on := 22, ground := Ground.guard }], guard := some (22, false) }) (v := undef) rfl (by kernel_rfl) (by kernel_rfl) (by kernel_rfl) (fun _ _ _ h => h) (Or.inr ⟨by rfl, rfl⟩) (by assumption) ?_
          try simp only [Act.put, List.setIfInBounds_toArray, List.set_cons_zero, List.set_cons_succ]
          refine wpAnyH_take (i := 28) (oi := { dst := some 99, op := Op.call { callee := Callee.value (Operand.func 17), args := #[Operand.tmp 97, Operand.tmp 98], argTypes := #[38, 38] }, type := 4, pos := "law.go:151", after := #[{ on := 26, ground := Ground.data }, { on := 27, ground := Ground.data }, { on := 25, ground := Ground.chain }, { on := 22, ground := Ground.guard }], guard := some (22, false) }) (v := undef) rfl (by kernel_rfl) (by kernel_rfl) (by kernel_rfl) (fun _ _ _ h => h) (Or.inr ⟨by rfl, rfl⟩) (by assumption) ?_
          try simp only [Act.put, List.setIfInBounds_toArray, List.set_cons_zero, List.set_cons_succ]
          refine wpAnyH_take (i := 29) (oi := { dst := some 100, op := Op.binOp BinOp.eql 4 (Operand.tmp 96) (Operand.tmp 99) 4, type := 4, pos := "law.go:151", after := #[{ on := 25, ground := Ground.data }, { on := 28, ground := Ground.data }, { on := 22, ground := Ground.guard }], guard := some (22, false) }) (v := undef) rfl (by kernel_rfl) (by kernel_rfl) (by kernel_rfl) (fun _ _ _ h => h) (Or.inr ⟨by rfl, rfl⟩) (by assumption) ?_
          try simp only [Act.put, List.setIfInBounds_toArray, List.set_cons_zero, List.set_cons_succ]
          refine wpAnyH_take (i := 30) (oi := { dst := some 101, op := Op.pick (Operand.tmp 93) (Operand.const (Value.bool true)) (Operand.tmp 100), type := 4, pos := "law.go:151", after := #[{ on := 22, ground := Ground.data }, { on := 29, ground := Ground.data }, { on := 15, ground := Ground.guard }], guard := some (15, true) }) (v := ?_) rfl (by kernel_rfl) (by kernel_rfl) (by kernel_rfl) (fun _ _ _ h => h) (Or.inl ⟨by rfl, ?_⟩) (by assumption) ?_
          rotate_left
          · intro w hSw
            try dsimp only at hSw
            clear hSw
            go_simp
            try (with_reducible rfl)
          try simp only [Act.put, List.setIfInBounds_toArray, List.set_cons_zero, List.set_cons_succ]
          refine wpAnyH_take (i := 31) (oi := { dst := some 102, op := Op.pick (Operand.tmp 86) (Operand.tmp 101) (Operand.const (Value.bool false)), type := 4, pos := "law.go:151", after := #[{ on := 15, ground := Ground.data }, { on := 30, ground := Ground.data }], guard := none }) (v := ?_) rfl (by kernel_rfl) (by kernel_rfl) (by kernel_rfl) (fun _ _ _ h => h) (Or.inl ⟨by rfl, ?_⟩) (by assumption) ?_
          rotate_left
          · intro w hSw
            try dsimp only at hSw
            clear hSw
            go_simp
            try (with_reducible rfl)
          try simp only [Act.put, List.setIfInBounds_toArray, List.set_cons_zero, List.set_cons_succ]
          refine wpAnyH_take (i := 32) (oi := { dst := some 8, op := Op.assign (Operand.tmp 102), type := 4, pos := "law.go:151", after := #[{ on := 31, ground := Ground.data }, { on := 28, ground := Ground.chain }, { on := 0, ground := Ground.phase }, { on := 1, ground := Ground.phase }, { on := 2, ground := Ground.phase }, { on := 3, ground := Ground.phase }, { on := 4, ground := Ground.phase }, { on := 5, ground := Ground.phase }, { on := 6, ground := Ground.phase }, { on := 7, ground := Ground.phase }, { on := 8, ground := Ground.phase }, { on := 9, ground := Ground.phase }, { on := 10, ground := Ground.phase }, { on := 11, ground := Ground.phase }, { on := 12, ground := Ground.phase }, { on := 13, ground := Ground.phase }, { on := 14, ground := Ground.phase }, { on := 15, ground := Ground.phase }, { on := 16, ground := Ground.phase }, { on := 17, ground := Ground.phase }, { on := 18, ground := Ground.phase }, { on := 19, ground := Ground.phase }, { on := 20, ground := Ground.phase }, { on := 21, ground := Ground.phase }, { on := 22, ground := Ground.phase }, { on := 23, ground := Ground.phase }, { on := 24, ground := Ground.phase }, { on := 25, ground := Ground.phase }, { on := 26, ground := Ground.phase }, { on := 27, ground := Ground.phase }, { on := 28, ground := Ground.phase }, { on := 29, ground := Ground.phase }, { on := 30, ground := Ground.phase }, { on := 31, ground := Ground.phase }], guard := none }) (v := ?_) rfl (by kernel_rfl) (by kernel_rfl) (by kernel_rfl) (fun _ _ _ h => h) (Or.inl ⟨by rfl, ?_⟩) (by assumption) ?_
          rotate_left
          · intro w hSw
            try dsimp only at hSw
            clear hSw
            go_simp
            try (with_reducible rfl)
          try simp only [Act.put, List.setIfInBounds_toArray, List.set_cons_zero, List.set_cons_succ]
          refine wpAnyH_done (by kernel_rfl) ?_ _
          refine NoPanic.normal ?_
          go_wp2_with fail
          go_ret
          exact ⟨rfl, (below_dr HB0.out)⟩
    · by_cases t3 : ec3 = 0
      · by_cases t4 : ec4 = 0
        · have z1 : ((ec1 : Int) != 0) = true := by rw [bne_iff_ne]; omega
          have z3 : ((ec3 : Int) != 0) = false := by rw [bne_eq_false_iff_eq]; omega
          have z4 : ((ec4 : Int) != 0) = false := by rw [bne_eq_false_iff_eq]; omega
          have q3 := HK3.out.resolve_right (fun h => by omega)
          have q4 := HK4.out.resolve_right (fun h => by omega)
          have HO3 := hid ((HW30.out _ q3.2.2))
          have HO4 := hid (q4.2.2)
          have HEQ2 := hid (knots_sameP y1 y2 ⟨HX3.out, q3.1⟩ ⟨HX4.out, q4.1⟩)
          clear q3 q4
          clear t1  t3 t4
          go_wp2_with fail
          refine wp_region_noPanic ?_
          refine wp_region_held_drew (S := (fun w' => w'.heap[w.heap.size]? = some (.cells #[.int .u8 (x1.k : Int), .int .u8 (x1.n : Int), .int .u32 (x1.e : Int), .int .u32 (x1.l : Int), .int .u32 (x1.t : Int), .int .u32 (x1.g : Int), .int .u32 (x1.j : Int), .int .u32 (x1.v : Int), .int .u8 (x1.r : Int), .int .i64 x1.c, .int .u32 (x1.f : Int), .int .u32 (x1.o : Int), .slice A1 K1 C1] 25 (0, 0)) ∧ w'.heap[w.heap.size + 1]? = some (.cells #[.int .u8 (x2.k : Int), .int .u8 (x2.n : Int), .int .u32 (x2.e : Int), .int .u32 (x2.l : Int), .int .u32 (x2.t : Int), .int .u32 (x2.g : Int), .int .u32 (x2.j : Int), .int .u32 (x2.v : Int), .int .u8 (x2.r : Int), .int .i64 x2.c, .int .u32 (x2.f : Int), .int .u32 (x2.o : Int), .slice A2 K2 C2] 25 (0, 0)) ∧ w'.heap[w.heap.size + 1 + 1]? = some (.cells #[.int .u8 (y1.n : Int), .int .u32 (y1.e : Int), .int .u32 (y1.l : Int), .int .u32 (y1.s : Int), .int .u32 (y1.a : Int), .bool y1.p, .slice A3 K3 C3] 38 (0, 0)) ∧ w'.heap[w.heap.size + 1 + 1 + 1]? = some (.cells #[.int .u8 (y2.n : Int), .int .u32 (y2.e : Int), .int .u32 (y2.l : Int), .int .u32 (y2.s : Int), .int .u32 (y2.a : Int), .bool y2.p, .slice A4 K4 C4] 38 (0, 0)))) (by kernel_rfl) ?_ (fun hHeld => ?_)
          · exact ⟨HR0.out, HR1.out, HR2.out, HR3.out⟩
          refine wpAnyH_take (i := 0) (oi := { dst := some 71, op := Op.move (Operand.tmp 10), type := 27, pos := "law.go:151", after := #[], guard := none }) (v := ?_) rfl (by kernel_rfl) (by kernel_rfl) (by kernel_rfl) (fun _ _ _ h => h) (Or.inl ⟨by rfl, ?_⟩) (by assumption) ?_
          rotate_left
          · intro w hSw
            try dsimp only at hSw
            clear hSw
            go_simp
            try (with_reducible rfl)
          try simp only [Act.put, List.setIfInBounds_toArray, List.set_cons_zero, List.set_cons_succ]
          refine wpAnyH_take (i := 1) (oi := { dst := some 72, op := Op.binOp BinOp.neq 27 (Operand.tmp 71) (Operand.const (Value.int IntKind.i64 0)) 27, type := 4, pos := "law.go:151", after := #[{ on := 0, ground := Ground.data }], guard := none }) (v := ?_) rfl (by kernel_rfl) (by kernel_rfl) (by kernel_rfl) (fun _ _ _ h => h) (Or.inl ⟨by rfl, ?_⟩) (by assumption) ?_
          rotate_left
          · intro w hSw
            try dsimp only at hSw
            clear hSw
            go_simp
            try (with_reducible rfl)
          try simp only [Act.put, List.setIfInBounds_toArray, List.set_cons_zero, List.set_cons_succ]
          refine wpAnyH_take (i := 2) (oi := { dst := some 73, op := Op.move (Operand.tmp 72), type := 4, pos := "law.go:151", after := #[{ on := 1, ground := Ground.data }], guard := none }) (v := ?_) rfl (by kernel_rfl) (by kernel_rfl) (by kernel_rfl) (fun _ _ _ h => h) (Or.inl ⟨by rfl, ?_⟩) (by assumption) ?_
          rotate_left
          · intro w hSw
            try dsimp only at hSw
            clear hSw
            go_simp
            try (with_reducible rfl)
          try simp only [Act.put, List.setIfInBounds_toArray, List.set_cons_zero, List.set_cons_succ]
          refine wpAnyH_take (i := 3) (oi := { dst := some 74, op := Op.move (Operand.tmp 12), type := 27, pos := "law.go:151", after := #[{ on := 2, ground := Ground.guard }], guard := some (2, false) }) (v := undef) rfl (by kernel_rfl) (by kernel_rfl) (by kernel_rfl) (fun _ _ _ h => h) (Or.inr ⟨by rfl, rfl⟩) (by assumption) ?_
          try simp only [Act.put, List.setIfInBounds_toArray, List.set_cons_zero, List.set_cons_succ]
          refine wpAnyH_take (i := 4) (oi := { dst := some 75, op := Op.binOp BinOp.neq 27 (Operand.tmp 74) (Operand.const (Value.int IntKind.i64 0)) 27, type := 4, pos := "law.go:151", after := #[{ on := 3, ground := Ground.data }, { on := 2, ground := Ground.guard }], guard := some (2, false) }) (v := undef) rfl (by kernel_rfl) (by kernel_rfl) (by kernel_rfl) (fun _ _ _ h => h) (Or.inr ⟨by rfl, rfl⟩) (by assumption) ?_
          try simp only [Act.put, List.setIfInBounds_toArray, List.set_cons_zero, List.set_cons_succ]
          refine wpAnyH_take (i := 5) (oi := { dst := some 76, op := Op.pick (Operand.tmp 73) (Operand.const (Value.bool true)) (Operand.tmp 75), type := 4, pos := "law.go:151", after := #[{ on := 2, ground := Ground.data }, { on := 4, ground := Ground.data }], guard := none }) (v := ?_) rfl (by kernel_rfl) (by kernel_rfl) (by kernel_rfl) (fun _ _ _ h => h) (Or.inl ⟨by rfl, ?_⟩) (by assumption) ?_
          rotate_left
          · intro w hSw
            try dsimp only at hSw
            clear hSw
            go_simp
            try (with_reducible rfl)
          try simp only [Act.put, List.setIfInBounds_toArray, List.set_cons_zero, List.set_cons_succ]
          refine wpAnyH_take (i := 6) (oi := { dst := some 77, op := Op.move (Operand.tmp 76), type := 4, pos := "law.go:151", after := #[{ on := 5, ground := Ground.data }, { on := 2, ground := Ground.chain }], guard := none }) (v := ?_) rfl (by kernel_rfl) (by kernel_rfl) (by kernel_rfl) (fun _ _ _ h => h) (Or.inl ⟨by rfl, ?_⟩) (by assumption) ?_
          rotate_left
          · intro w hSw
            try dsimp only at hSw
            clear hSw
            go_simp
            try (with_reducible rfl)
          try simp only [Act.put, List.setIfInBounds_toArray, List.set_cons_zero, List.set_cons_succ]
          refine wpAnyH_take (i := 7) (oi := { dst := some 78, op := Op.move (Operand.tmp 9), type := 23, pos := "law.go:151", after := #[{ on := 6, ground := Ground.guard }], guard := some (6, false) }) (v := undef) rfl (by kernel_rfl) (by kernel_rfl) (by kernel_rfl) (fun _ _ _ h => h) (Or.inr ⟨by rfl, rfl⟩) (by assumption) ?_
          try simp only [Act.put, List.setIfInBounds_toArray, List.set_cons_zero, List.set_cons_succ]
          refine wpAnyH_take (i := 8) (oi := { dst := some 79, op := Op.move (Operand.tmp 11), type := 23, pos := "law.go:151", after := #[{ on := 6, ground := Ground.guard }], guard := some (6, false) }) (v := undef) rfl (by kernel_rfl) (by kernel_rfl) (by kernel_rfl) (fun _ _ _ h => h) (Or.inr ⟨by rfl, rfl⟩) (by assumption) ?_
          try simp only [Act.put, List.setIfInBounds_toArray, List.set_cons_zero, List.set_cons_succ]
          refine wpAnyH_take (i := 9) (oi := { dst := some 80, op := Op.call { callee := Callee.value (Operand.func 12), args := #[Operand.tmp 78, Operand.tmp 79], argTypes := #[23, 23] }, type := 4, pos := "law.go:151", after := #[{ on := 7, ground := Ground.data }, { on := 8, ground := Ground.data }, { on := 6, ground := Ground.chain }, { on := 6, ground := Ground.guard }], guard := some (6, false) }) (v := undef) rfl (by kernel_rfl) (by kernel_rfl) (by kernel_rfl) (fun _ _ _ h => h) (Or.inr ⟨by rfl, rfl⟩) (by assumption) ?_
          try simp only [Act.put, List.setIfInBounds_toArray, List.set_cons_zero, List.set_cons_succ]
          refine wpAnyH_take (i := 10) (oi := { dst := some 81, op := Op.load 25 (Operand.tmp 4), type := 25, pos := "law.go:151", after := #[{ on := 6, ground := Ground.guard }], guard := some (6, false) }) (v := undef) rfl (by kernel_rfl) (by kernel_rfl) (by kernel_rfl) (fun _ _ _ h => h) (Or.inr ⟨by rfl, rfl⟩) (by assumption) ?_
          try simp only [Act.put, List.setIfInBounds_toArray, List.set_cons_zero, List.set_cons_succ]
          refine wpAnyH_take (i := 11) (oi := { dst := some 82, op := Op.load 25 (Operand.tmp 5), type := 25, pos := "law.go:151", after := #[{ on := 6, ground := Ground.guard }], guard := some (6, false) }) (v := undef) rfl (by kernel_rfl) (by kernel_rfl) (by kernel_rfl) (fun _ _ _ h => h) (Or.inr ⟨by rfl, rfl⟩) (by assumption) ?_
          try simp only [Act.put, List.setIfInBounds_toArray, List.set_cons_zero, List.set_cons_succ]
          refine wpAnyH_take (i := 12) (oi := { dst := some 83, op := Op.call { callee := Callee.value (Operand.func 13), args := #[Operand.tmp 81, Operand.tmp 82], argTypes := #[25, 25] }, type := 4, pos := "law.go:151", after := #[{ on := 10, ground := Ground.data }, { on := 11, ground := Ground.data }, { on := 9, ground := Ground.chain }, { on := 6, ground := Ground.guard }], guard := some (6, false) }) (v := undef) rfl (by kernel_rfl) (by kernel_rfl) (by kernel_rfl) (fun _ _ _ h => h) (Or.inr ⟨by rfl, rfl⟩) (by assumption) ?_
          try simp only [Act.put, List.setIfInBounds_toArray, List.set_cons_zero, List.set_cons_succ]
          refine wpAnyH_take (i := 13) (oi := { dst := some 84, op := Op.binOp BinOp.eql 4 (Operand.tmp 80) (Operand.tmp 83) 4, type := 4, pos := "law.go:151", after := #[{ on := 9, ground := Ground.data }, { on := 12, ground := Ground.data }, { on := 6, ground := Ground.guard }], guard := some (6, false) }) (v := undef) rfl (by kernel_rfl) (by kernel_rfl) (by kernel_rfl) (fun _ _ _ h => h) (Or.inr ⟨by rfl, rfl⟩) (by assumption) ?_
          try simp only [Act.put, List.setIfInBounds_toArray, List.set_cons_zero, List.set_cons_succ]
          refine wpAnyH_take (i := 14) (oi := { dst := some 85, op := Op.pick (Operand.tmp 77) (Operand.const (Value.bool true)) (Operand.tmp 84), type := 4, pos := "law.go:151", after := #[{ on := 6, ground := Ground.data }, { on := 13, ground := Ground.data }], guard := none }) (v := ?_) rfl (by kernel_rfl) (by kernel_rfl) (by kernel_rfl) (fun _ _ _ h => h) (Or.inl ⟨by rfl, ?_⟩) (by assumption) ?_
          rotate_left
          · intro w hSw
            try dsimp only at hSw
            clear hSw
            go_simp
            try (with_reducible rfl)
          try simp only [Act.put, List.setIfInBounds_toArray, List.set_cons_zero, List.set_cons_succ]
          refine wpAnyH_take (i := 15) (oi := { dst := some 86, op := Op.move (Operand.tmp 85), type := 4, pos := "law.go:151", after := #[{ on := 14, ground := Ground.data }, { on := 12, ground := Ground.chain }], guard := none }) (v := ?_) rfl (by kernel_rfl) (by kernel_rfl) (by kernel_rfl) (fun _ _ _ h => h) (Or.inl ⟨by rfl, ?_⟩) (by assumption) ?_
          rotate_left
          · intro w hSw
            try dsimp only at hSw
            clear hSw
            go_simp
            try (with_reducible rfl)
          try simp only [Act.put, List.setIfInBounds_toArray, List.set_cons_zero, List.set_cons_succ]
          refine wpAnyH_take (i := 16) (oi := { dst := some 87, op := Op.move (Operand.tmp 14), type := 27, pos := "law.go:151", after := #[{ on := 15, ground := Ground.guard }], guard := some (15, true) }) (v := ?_) rfl (by kernel_rfl) (by kernel_rfl) (by kernel_rfl) (fun _ _ _ h => h) (Or.inl ⟨by rfl, ?_⟩) (by assumption) ?_
          rotate_left
          · intro w hSw
            try dsimp only at hSw
            clear hSw
            go_simp
            try (with_reducible rfl)
          try simp only [Act.put, List.setIfInBounds_toArray, List.set_cons_zero, List.set_cons_succ]
          refine wpAnyH_take (i := 17) (oi := { dst := some 88, op := Op.binOp BinOp.neq 27 (Operand.tmp 87) (Operand.const (Value.int IntKind.i64 0)) 27, type := 4, pos := "law.go:151", after := #[{ on := 16, ground := Ground.data }, { on := 15, ground := Ground.guard }], guard := some (15, true) }) (v := ?_) rfl (by kernel_rfl) (by kernel_rfl) (by kernel_rfl) (fun _ _ _ h => h) (Or.inl ⟨by rfl, ?_⟩) (by assumption) ?_
          rotate_left
          · intro w hSw
            try dsimp only at hSw
            clear hSw
            go_simp
            try (with_reducible rfl)
          try simp only [Act.put, List.setIfInBounds_toArray, List.set_cons_zero, List.set_cons_succ]
          refine wpAnyH_take (i := 18) (oi := { dst := some 89, op := Op.move (Operand.tmp 88), type := 4, pos := "law.go:151", after := #[{ on := 17, ground := Ground.data }, { on := 15, ground := Ground.chain }, { on := 15, ground := Ground.guard }], guard := some (15, true) }) (v := ?_) rfl (by kernel_rfl) (by kernel_rfl) (by kernel_rfl) (fun _ _ _ h => h) (Or.inl ⟨by rfl, ?_⟩) (by assumption) ?_
          rotate_left
          · intro w hSw
            try dsimp only at hSw
            clear hSw
            go_simp
            try (with_reducible rfl)
          try simp only [Act.put, List.setIfInBounds_toArray, List.set_cons_zero, List.set_cons_succ]
          refine wpAnyH_take (i := 19) (oi := { dst := some 90, op := Op.move (Operand.tmp 16), type := 27, pos := "law.go:151", after := #[{ on := 18, ground := Ground.guard }], guard := some (18, false) }) (v := ?_) rfl (by kernel_rfl) (by kernel_rfl) (by kernel_rfl) (fun _ _ _ h => h) (Or.inl ⟨by rfl, ?_⟩) (by assumption) ?_
          rotate_left
          · intro w hSw
            try dsimp only at hSw
            clear hSw
            go_simp
            try (with_reducible rfl)
          try simp only [Act.put, List.setIfInBounds_toArray, List.set_cons_zero, List.set_cons_succ]
          refine wpAnyH_take (i := 20) (oi := { dst := some 91, op := Op.binOp BinOp.neq 27 (Operand.tmp 90) (Operand.const (Value.int IntKind.i64 0)) 27, type := 4, pos := "law.go:151", after := #[{ on := 19, ground := Ground.data }, { on := 18, ground := Ground.guard }], guard := some (18, false) }) (v := ?_) rfl (by kernel_rfl) (by kernel_rfl) (by kernel_rfl) (fun _ _ _ h => h) (Or.inl ⟨by rfl, ?_⟩) (by assumption) ?_
          rotate_left
          · intro w hSw
            try dsimp only at hSw
            clear hSw
            go_simp
            try (with_reducible rfl)
          try simp only [Act.put, List.setIfInBounds_toArray, List.set_cons_zero, List.set_cons_succ]
          refine wpAnyH_take (i := 21) (oi := { dst := some 92, op := Op.pick (Operand.tmp 89) (Operand.const (Value.bool true)) (Operand.tmp 91), type := 4, pos := "law.go:151", after := #[{ on := 18, ground := Ground.data }, { on := 20, ground := Ground.data }, { on := 15, ground := Ground.guard }], guard := some (15, true) }) (v := ?_) rfl (by kernel_rfl) (by kernel_rfl) (by kernel_rfl) (fun _ _ _ h => h) (Or.inl ⟨by rfl, ?_⟩) (by assumption) ?_
          rotate_left
          · intro w hSw
            try dsimp only at hSw
            clear hSw
            go_simp
            try (with_reducible rfl)
          try simp only [Act.put, List.setIfInBounds_toArray, List.set_cons_zero, List.set_cons_succ]
          refine wpAnyH_take (i := 22) (oi := { dst := some 93, op := Op.move (Operand.tmp 92), type := 4, pos := "law.go:151", after := #[{ on := 21, ground := Ground.data }, { on := 18, ground := Ground.chain }, { on := 15, ground := Ground.guard }], guard := some (15, true) }) (v := ?_) rfl (by kernel_rfl) (by kernel_rfl) (by kernel_rfl) (fun _ _ _ h => h) (Or.inl ⟨by rfl, ?_⟩) (by assumption) ?_
          rotate_left
          · intro w hSw
            try dsimp only at hSw
            clear hSw
            go_simp
            try (with_reducible rfl)
          try simp only [Act.put, List.setIfInBounds_toArray, List.set_cons_zero, List.set_cons_succ]
          refine wpAnyH_take (i := 23) (oi := { dst := some 94, op := Op.move (Operand.tmp 13), type := 23, pos := "law.go:151", after := #[{ on := 22, ground := Ground.guard }], guard := some (22, false) }) (v := ?_) rfl (by kernel_rfl) (by kernel_rfl) (by kernel_rfl) (fun _ _ _ h => h) (Or.inl ⟨by rfl, ?_⟩) (by assumption) ?_
          rotate_left
          · intro w hSw
            try dsimp only at hSw
            clear hSw
            go_simp
            try (with_reducible rfl)
          try simp only [Act.put, List.setIfInBounds_toArray, List.set_cons_zero, List.set_cons_succ]
          refine wpAnyH_take (i := 24) (oi := { dst := some 95, op := Op.move (Operand.tmp 15), type := 23, pos := "law.go:151", after := #[{ on := 22, ground := Ground.guard }], guard := some (22, false) }) (v := ?_) rfl (by kernel_rfl) (by kernel_rfl) (by kernel_rfl) (fun _ _ _ h => h) (Or.inl ⟨by rfl, ?_⟩) (by assumption) ?_
          rotate_left
          · intro w hSw
            try dsimp only at hSw
            clear hSw
            go_simp
            try (with_reducible rfl)
          try simp only [Act.put, List.setIfInBounds_toArray, List.set_cons_zero, List.set_cons_succ]
          refine wpAnyH_take (i := 26) (oi := { dst := some 97, op := Op.load 38 (Operand.tmp 6), type := 38, pos := "law.go:151", after := #[{ on := 22, ground := Ground.guard }], guard := some (22, false) }) (v := ?_) rfl (by kernel_rfl) (by kernel_rfl) (by kernel_rfl) (fun _ _ _ h => h) (Or.inl ⟨by rfl, ?_⟩) (by assumption) ?_
          rotate_left
          · intro u hSu
            obtain ⟨s0, s1, s2, s3⟩ := hSu
            have c2_0 : u.cell? ⟨w.heap.size + 1 + 1, 0, none⟩ = some (.int .u8 (y1.n : Int)) := (cell_of_row _ _ _ _ _ _ s2).trans rfl
            have c2_1 : u.cell? ⟨w.heap.size + 1 + 1, 1, none⟩ = some (.int .u32 (y1.e : Int)) := (cell_of_row _ _ _ _ _ _ s2).trans rfl
            have c2_2 : u.cell? ⟨w.heap.size + 1 + 1, 2, none⟩ = some (.int .u32 (y1.l : Int)) := (cell_of_row _ _ _ _ _ _ s2).trans rfl
            have c2_3 : u.cell? ⟨w.heap.size + 1 + 1, 3, none⟩ = some (.int .u32 (y1.s : Int)) := (cell_of_row _ _ _ _ _ _ s2).trans rfl
            have c2_4 : u.cell? ⟨w.heap.size + 1 + 1, 4, none⟩ = some (.int .u32 (y1.a : Int)) := (cell_of_row _ _ _ _ _ _ s2).trans rfl
            have c2_5 : u.cell? ⟨w.heap.size + 1 + 1, 5, none⟩ = some (.bool y1.p) := (cell_of_row _ _ _ _ _ _ s2).trans rfl
            have c2_6 : u.cell? ⟨w.heap.size + 1 + 1, 6, none⟩ = some (.slice A3 K3 C3) := (cell_of_row _ _ _ _ _ _ s2).trans rfl
            clear s0 s1 s2 s3
            go_simp
            try (with_reducible rfl)
          try simp only [Act.put, List.setIfInBounds_toArray, List.set_cons_zero, List.set_cons_succ]
          refine wpAnyH_take (i := 27) (oi := { dst := some 98, op := Op.load 38 (Operand.tmp 7), type := 38, pos := "law.go:151", after := #[{ on := 22, ground := Ground.guard }], guard := some (22, false) }) (v := ?_) rfl (by kernel_rfl) (by kernel_rfl) (by kernel_rfl) (fun _ _ _ h => h) (Or.inl ⟨by rfl, ?_⟩) (by assumption) ?_
          rotate_left
          · intro u hSu
            obtain ⟨s0, s1, s2, s3⟩ := hSu
            have c3_0 : u.cell? ⟨w.heap.size + 1 + 1 + 1, 0, none⟩ = some (.int .u8 (y2.n : Int)) := (cell_of_row _ _ _ _ _ _ s3).trans rfl
            have c3_1 : u.cell? ⟨w.heap.size + 1 + 1 + 1, 1, none⟩ = some (.int .u32 (y2.e : Int)) := (cell_of_row _ _ _ _ _ _ s3).trans rfl
            have c3_2 : u.cell? ⟨w.heap.size + 1 + 1 + 1, 2, none⟩ = some (.int .u32 (y2.l : Int)) := (cell_of_row _ _ _ _ _ _ s3).trans rfl
            have c3_3 : u.cell? ⟨w.heap.size + 1 + 1 + 1, 3, none⟩ = some (.int .u32 (y2.s : Int)) := (cell_of_row _ _ _ _ _ _ s3).trans rfl
            have c3_4 : u.cell? ⟨w.heap.size + 1 + 1 + 1, 4, none⟩ = some (.int .u32 (y2.a : Int)) := (cell_of_row _ _ _ _ _ _ s3).trans rfl
            have c3_5 : u.cell? ⟨w.heap.size + 1 + 1 + 1, 5, none⟩ = some (.bool y2.p) := (cell_of_row _ _ _ _ _ _ s3).trans rfl
            have c3_6 : u.cell? ⟨w.heap.size + 1 + 1 + 1, 6, none⟩ = some (.slice A4 K4 C4) := (cell_of_row _ _ _ _ _ _ s3).trans rfl
            clear s0 s1 s2 s3
            go_simp
            try (with_reducible rfl)
          try simp only [Act.put, List.setIfInBounds_toArray, List.set_cons_zero, List.set_cons_succ]
          refine wpAnyH_ready (rs := [25]) (by kernel_rfl) (by simp) ?_
          refine AllReadyH.cons (o := { dst := some 96, op := Op.call { callee := Callee.value (Operand.func 12), args := #[Operand.tmp 94, Operand.tmp 95], argTypes := #[23, 23] }, type := 4, pos := "law.go:151", after := #[{ on := 23, ground := Ground.data }, { on := 24, ground := Ground.data }, { on := 22, ground := Ground.chain }, { on := 22, ground := Ground.guard }], guard := some (22, false) }) rfl (fun K hK => ?_) AllReadyH.nil
          go_simp
          refine (same_any kv3 kv4 (Knot.knot y1.enc) (Knot.knot y2.enc) _ (show Rd w0.drew _ _ from HO3.out) (show Rd w0.drew _ _ from HO4.out)).mono ?_
          rintro e w' ⟨rfl, rfl⟩
          rw [HEQ2.out]
          go_wp2_with fail
          refine hK.out _ _ ?_ (fun hHeld => ?_)
          · exact hHeld
          clear hK K
          try simp only [Act.put, List.setIfInBounds_toArray, List.set_cons_zero, List.set_cons_succ]
          refine wpAnyH_ready (rs := [28]) (by kernel_rfl) (by simp) ?_
          refine AllReadyH.cons (o := { dst := some 99, op := Op.call { callee := Callee.value (Operand.func 17), args := #[Operand.tmp 97, Operand.tmp 98], argTypes := #[38, 38] }, type := 4, pos := "law.go:151", after := #[{ on := 26, ground := Ground.data }, { on := 27, ground := Ground.data }, { on := 25, ground := Ground.chain }, { on := 22, ground := Ground.guard }], guard := some (22, false) }) rfl (fun K hK => ?_) AllReadyH.nil
          go_simp
          refine (samepacket_any y1 y2 A3 A4 C3 C4 K3 K4 _ (show Rd w0.drew _ _ from HD3.out) (show Rd w0.drew _ _ from HD4.out)).mono ?_
          rintro e wl ⟨rfl, hbl⟩
          have HBL := hid (show Below w0.heap.size w0 wl from ⟨hbl.os, hbl.tape, hbl.output, hbl.size, hbl.block⟩)
          have hsl : w0.heap.size ≤ w0.heap.size := Nat.le_refl _
          clear hbl
          go_wp2_with fail
          refine hK.out _ _ ?_ (fun hHeld => ?_)
          · obtain ⟨s0, s1, s2, s3⟩ := hHeld
            exact ⟨(HBL.out.block _ (by omega)).trans s0, (HBL.out.block _ (by omega)).trans s1, (HBL.out.block _ (by omega)).trans s2, (HBL.out.block _ (by omega)).trans s3⟩
          clear hK K
          try simp only [Act.put, List.setIfInBounds_toArray, List.set_cons_zero, List.set_cons_succ]
          refine wpAnyH_take (i := 29) (oi := { dst := some 100, op := Op.binOp BinOp.eql 4 (Operand.tmp 96) (Operand.tmp 99) 4, type := 4, pos := "law.go:151", after := #[{ on := 25, ground := Ground.data }, { on := 28, ground := Ground.data }, { on := 22, ground := Ground.guard }], guard := some (22, false) }) (v := ?_) rfl (by kernel_rfl) (by kernel_rfl) (by kernel_rfl) (fun _ _ _ h => h) (Or.inl ⟨by rfl, ?_⟩) (by assumption) ?_
          rotate_left
          · intro w hSw
            try dsimp only at hSw
            clear hSw
            go_simp
            try (with_reducible rfl)
          try simp only [Act.put, List.setIfInBounds_toArray, List.set_cons_zero, List.set_cons_succ]
          refine wpAnyH_take (i := 30) (oi := { dst := some 101, op := Op.pick (Operand.tmp 93) (Operand.const (Value.bool true)) (Operand.tmp 100), type := 4, pos := "law.go:151", after := #[{ on := 22, ground := Ground.data }, { on := 29, ground := Ground.data }, { on := 15, ground := Ground.guard }], guard := some (15, true) }) (v := ?_) rfl (by kernel_rfl) (by kernel_rfl) (by kernel_rfl) (fun _ _ _ h => h) (Or.inl ⟨by rfl, ?_⟩) (by assumption) ?_
          rotate_left
          · intro w hSw
            try dsimp only at hSw
            clear hSw
            go_simp
            try (with_reducible rfl)
          try simp only [Act.put, List.setIfInBounds_toArray, List.set_cons_zero, List.set_cons_succ]
          refine wpAnyH_take (i := 31) (oi := { dst := some 102, op := Op.pick (Operand.tmp 86) (Operand.tmp 101) (Operand.const (Value.bool false)), type := 4, pos := "law.go:151", after := #[{ on := 15, ground := Ground.data }, { on := 30, ground := Ground.data }], guard := none }) (v := ?_) rfl (by kernel_rfl) (by kernel_rfl) (by kernel_rfl) (fun _ _ _ h => h) (Or.inl ⟨by rfl, ?_⟩) (by assumption) ?_
          rotate_left
          · intro w hSw
            try dsimp only at hSw
            clear hSw
            go_simp
            try (with_reducible rfl)
          try simp only [Act.put, List.setIfInBounds_toArray, List.set_cons_zero, List.set_cons_succ]
          refine wpAnyH_take (i := 32) (oi := { dst := some 8, op := Op.assign (Operand.tmp 102), type := 4, pos := "law.go:151", after := #[{ on := 31, ground := Ground.data }, { on := 28, ground := Ground.chain }, { on := 0, ground := Ground.phase }, { on := 1, ground := Ground.phase }, { on := 2, ground := Ground.phase }, { on := 3, ground := Ground.phase }, { on := 4, ground := Ground.phase }, { on := 5, ground := Ground.phase }, { on := 6, ground := Ground.phase }, { on := 7, ground := Ground.phase }, { on := 8, ground := Ground.phase }, { on := 9, ground := Ground.phase }, { on := 10, ground := Ground.phase }, { on := 11, ground := Ground.phase }, { on := 12, ground := Ground.phase }, { on := 13, ground := Ground.phase }, { on := 14, ground := Ground.phase }, { on := 15, ground := Ground.phase }, { on := 16, ground := Ground.phase }, { on := 17, ground := Ground.phase }, { on := 18, ground := Ground.phase }, { on := 19, ground := Ground.phase }, { on := 20, ground := Ground.phase }, { on := 21, ground := Ground.phase }, { on := 22, ground := Ground.phase }, { on := 23, ground := Ground.phase }, { on := 24, ground := Ground.phase }, { on := 25, ground := Ground.phase }, { on := 26, ground := Ground.phase }, { on := 27, ground := Ground.phase }, { on := 28, ground := Ground.phase }, { on := 29, ground := Ground.phase }, { on := 30, ground := Ground.phase }, { on := 31, ground := Ground.phase }], guard := none }) (v := ?_) rfl (by kernel_rfl) (by kernel_rfl) (by kernel_rfl) (fun _ _ _ h => h) (Or.inl ⟨by rfl, ?_⟩) (by assumption) ?_
          rotate_left
          · intro w hSw
            try dsimp only at hSw
            clear hSw
            go_simp
            try (with_reducible rfl)
          try simp only [Act.put, List.setIfInBounds_toArray, List.set_cons_zero, List.set_cons_succ]
          refine wpAnyH_done (by kernel_rfl) ?_ _
          refine NoPanic.normal ?_
          go_wp2_with fail
          go_ret
          exact ⟨rfl, (HB0.out.trans (HBL.out.mono (by omega)))⟩
        · have z1 : ((ec1 : Int) != 0) = true := by rw [bne_iff_ne]; omega
          have z3 : ((ec3 : Int) != 0) = false := by rw [bne_eq_false_iff_eq]; omega
          have z4 : ((ec4 : Int) != 0) = true := by rw [bne_iff_ne]; omega
          clear t1  t3 t4
          go_wp2_with fail
          refine wp_region_noPanic ?_
          refine wp_region_held_drew (S := (fun w' => w'.heap[w.heap.size]? = some (.cells #[.int .u8 (x1.k : Int), .int .u8 (x1.n : Int), .int .u32 (x1.e : Int), .int .u32 (x1.l : Int), .int .u32 (x1.t : Int), .int .u32 (x1.g : Int), .int .u32 (x1.j : Int), .int .u32 (x1.v : Int), .int .u8 (x1.r : Int), .int .i64 x1.c, .int .u32 (x1.f : Int), .int .u32 (x1.o : Int), .slice A1 K1 C1] 25 (0, 0)) ∧ w'.heap[w.heap.size + 1]? = some (.cells #[.int .u8 (x2.k : Int), .int .u8 (x2.n : Int), .int .u32 (x2.e : Int), .int .u32 (x2.l : Int), .int .u32 (x2.t : Int), .int .u32 (x2.g : Int), .int .u32 (x2.j : Int), .int .u32 (x2.v : Int), .int .u8 (x2.r : Int), .int .i64 x2.c, .int .u32 (x2.f : Int), .int .u32 (x2.o : Int), .slice A2 K2 C2] 25 (0, 0)) ∧ w'.heap[w.heap.size + 1 + 1]? = some (.cells #[.int .u8 (y1.n : Int), .int .u32 (y1.e : Int), .int .u32 (y1.l : Int), .int .u32 (y1.s : Int), .int .u32 (y1.a : Int), .bool y1.p, .slice A3 K3 C3] 38 (0, 0)) ∧ w'.heap[w.heap.size + 1 + 1 + 1]? = some (.cells #[.int .u8 (y2.n : Int), .int .u32 (y2.e : Int), .int .u32 (y2.l : Int), .int .u32 (y2.s : Int), .int .u32 (y2.a : Int), .bool y2.p, .slice A4 K4 C4] 38 (0, 0)))) (by kernel_rfl) ?_ (fun hHeld => ?_)
          · exact ⟨HR0.out, HR1.out, HR2.out, HR3.out⟩
          refine wpAnyH_take (i := 0) (oi := { dst := some 71, op := Op.move (Operand.tmp 10), type := 27, pos := "law.go:151", after := #[], guard := none }) (v := ?_) rfl (by kernel_rfl) (by kernel_rfl) (by kernel_rfl) (fun _ _ _ h => h) (Or.inl ⟨by rfl, ?_⟩) (by assumption) ?_
          rotate_left
          · intro w hSw
            try dsimp only at hSw
            clear hSw
            go_simp
            try (with_reducible rfl)
          try simp only [Act.put, List.setIfInBounds_toArray, List.set_cons_zero, List.set_cons_succ]
          refine wpAnyH_take (i := 1) (oi := { dst := some 72, op := Op.binOp BinOp.neq 27 (Operand.tmp 71) (Operand.const (Value.int IntKind.i64 0)) 27, type := 4, pos := "law.go:151", after := #[{ on := 0, ground := Ground.data }], guard := none }) (v := ?_) rfl (by kernel_rfl) (by kernel_rfl) (by kernel_rfl) (fun _ _ _ h => h) (Or.inl ⟨by rfl, ?_⟩) (by assumption) ?_
          rotate_left
          · intro w hSw
            try dsimp only at hSw
            clear hSw
            go_simp
            try (with_reducible rfl)
          try simp only [Act.put, List.setIfInBounds_toArray, List.set_cons_zero, List.set_cons_succ]
          refine wpAnyH_take (i := 2) (oi := { dst := some 73, op := Op.move (Operand.tmp 72), type := 4, pos := "law.go:151", after := #[{ on := 1, ground := Ground.data }], guard := none }) (v := ?_) rfl (by kernel_rfl) (by kernel_rfl) (by kernel_rfl) (fun _ _ _ h => h) (Or.inl ⟨by rfl, ?_⟩) (by assumption) ?_
          rotate_left
          · intro w hSw
            try dsimp only at hSw
            clear hSw
            go_simp
            try (with_reducible rfl)
          try simp only [Act.put, List.setIfInBounds_toArray, List.set_cons_zero, List.set_cons_succ]
          refine wpAnyH_take (i := 3) (oi := { dst := some 74, op := Op.move (Operand.tmp 12), type := 27, pos := "law.go:151", after := #[{ on := 2, ground := Ground.guard }], guard := some (2, false) }) (v := undef) rfl (by kernel_rfl) (by kernel_rfl) (by kernel_rfl) (fun _ _ _ h => h) (Or.inr ⟨by rfl, rfl⟩) (by assumption) ?_
          try simp only [Act.put, List.setIfInBounds_toArray, List.set_cons_zero, List.set_cons_succ]
          refine wpAnyH_take (i := 4) (oi := { dst := some 75, op := Op.binOp BinOp.neq 27 (Operand.tmp 74) (Operand.const (Value.int IntKind.i64 0)) 27, type := 4, pos := "law.go:151", after := #[{ on := 3, ground := Ground.data }, { on := 2, ground := Ground.guard }], guard := some (2, false) }) (v := undef) rfl (by kernel_rfl) (by kernel_rfl) (by kernel_rfl) (fun _ _ _ h => h) (Or.inr ⟨by rfl, rfl⟩) (by assumption) ?_
          try simp only [Act.put, List.setIfInBounds_toArray, List.set_cons_zero, List.set_cons_succ]
          refine wpAnyH_take (i := 5) (oi := { dst := some 76, op := Op.pick (Operand.tmp 73) (Operand.const (Value.bool true)) (Operand.tmp 75), type := 4, pos := "law.go:151", after := #[{ on := 2, ground := Ground.data }, { on := 4, ground := Ground.data }], guard := none }) (v := ?_) rfl (by kernel_rfl) (by kernel_rfl) (by kernel_rfl) (fun _ _ _ h => h) (Or.inl ⟨by rfl, ?_⟩) (by assumption) ?_
          rotate_left
          · intro w hSw
            try dsimp only at hSw
            clear hSw
            go_simp
            try (with_reducible rfl)
          try simp only [Act.put, List.setIfInBounds_toArray, List.set_cons_zero, List.set_cons_succ]
          refine wpAnyH_take (i := 6) (oi := { dst := some 77, op := Op.move (Operand.tmp 76), type := 4, pos := "law.go:151", after := #[{ on := 5, ground := Ground.data }, { on := 2, ground := Ground.chain }], guard := none }) (v := ?_) rfl (by kernel_rfl) (by kernel_rfl) (by kernel_rfl) (fun _ _ _ h => h) (Or.inl ⟨by rfl, ?_⟩) (by assumption) ?_
          rotate_left
          · intro w hSw
            try dsimp only at hSw
            clear hSw
            go_simp
            try (with_reducible rfl)
          try simp only [Act.put, List.setIfInBounds_toArray, List.set_cons_zero, List.set_cons_succ]
          refine wpAnyH_take (i := 7) (oi := { dst := some 78, op := Op.move (Operand.tmp 9), type := 23, pos := "law.go:151", after := #[{ on := 6, ground := Ground.guard }], guard := some (6, false) }) (v := undef) rfl (by kernel_rfl) (by kernel_rfl) (by kernel_rfl) (fun _ _ _ h => h) (Or.inr ⟨by rfl, rfl⟩) (by assumption) ?_
          try simp only [Act.put, List.setIfInBounds_toArray, List.set_cons_zero, List.set_cons_succ]
          refine wpAnyH_take (i := 8) (oi := { dst := some 79, op := Op.move (Operand.tmp 11), type := 23, pos := "law.go:151", after := #[{ on := 6, ground := Ground.guard }], guard := some (6, false) }) (v := undef) rfl (by kernel_rfl) (by kernel_rfl) (by kernel_rfl) (fun _ _ _ h => h) (Or.inr ⟨by rfl, rfl⟩) (by assumption) ?_
          try simp only [Act.put, List.setIfInBounds_toArray, List.set_cons_zero, List.set_cons_succ]
          refine wpAnyH_take (i := 9) (oi := { dst := some 80, op := Op.call { callee := Callee.value (Operand.func 12), args := #[Operand.tmp 78, Operand.tmp 79], argTypes := #[23, 23] }, type := 4, pos := "law.go:151", after := #[{ on := 7, ground := Ground.data }, { on := 8, ground := Ground.data }, { on := 6, ground := Ground.chain }, { on := 6, ground := Ground.guard }], guard := some (6, false) }) (v := undef) rfl (by kernel_rfl) (by kernel_rfl) (by kernel_rfl) (fun _ _ _ h => h) (Or.inr ⟨by rfl, rfl⟩) (by assumption) ?_
          try simp only [Act.put, List.setIfInBounds_toArray, List.set_cons_zero, List.set_cons_succ]
          refine wpAnyH_take (i := 10) (oi := { dst := some 81, op := Op.load 25 (Operand.tmp 4), type := 25, pos := "law.go:151", after := #[{ on := 6, ground := Ground.guard }], guard := some (6, false) }) (v := undef) rfl (by kernel_rfl) (by kernel_rfl) (by kernel_rfl) (fun _ _ _ h => h) (Or.inr ⟨by rfl, rfl⟩) (by assumption) ?_
          try simp only [Act.put, List.setIfInBounds_toArray, List.set_cons_zero, List.set_cons_succ]
          refine wpAnyH_take (i := 11) (oi := { dst := some 82, op := Op.load 25 (Operand.tmp 5), type := 25, pos := "law.go:151", after := #[{ on := 6, ground := Ground.guard }], guard := some (6, false) }) (v := undef) rfl (by kernel_rfl) (by kernel_rfl) (by kernel_rfl) (fun _ _ _ h => h) (Or.inr ⟨by rfl, rfl⟩) (by assumption) ?_
          try simp only [Act.put, List.setIfInBounds_toArray, List.set_cons_zero, List.set_cons_succ]
          refine wpAnyH_take (i := 12) (oi := { dst := some 83, op := Op.call { callee := Callee.value (Operand.func 13), args := #[Operand.tmp 81, Operand.tmp 82], argTypes := #[25, 25] }, type := 4, pos := "law.go:151", after := #[{ on := 10, ground := Ground.data }, { on := 11, ground := Ground.data }, { on := 9, ground := Ground.chain }, { on := 6, ground := Ground.guard }], guard := some (6, false) }) (v := undef) rfl (by kernel_rfl) (by kernel_rfl) (by kernel_rfl) (fun _ _ _ h => h) (Or.inr ⟨by rfl, rfl⟩) (by assumption) ?_
          try simp only [Act.put, List.setIfInBounds_toArray, List.set_cons_zero, List.set_cons_succ]
          refine wpAnyH_take (i := 13) (oi := { dst := some 84, op := Op.binOp BinOp.eql 4 (Operand.tmp 80) (Operand.tmp 83) 4, type := 4, pos := "law.go:151", after := #[{ on := 9, ground := Ground.data }, { on := 12, ground := Ground.data }, { on := 6, ground := Ground.guard }], guard := some (6, false) }) (v := undef) rfl (by kernel_rfl) (by kernel_rfl) (by kernel_rfl) (fun _ _ _ h => h) (Or.inr ⟨by rfl, rfl⟩) (by assumption) ?_
          try simp only [Act.put, List.setIfInBounds_toArray, List.set_cons_zero, List.set_cons_succ]
          refine wpAnyH_take (i := 14) (oi := { dst := some 85, op := Op.pick (Operand.tmp 77) (Operand.const (Value.bool true)) (Operand.tmp 84), type := 4, pos := "law.go:151", after := #[{ on := 6, ground := Ground.data }, { on := 13, ground := Ground.data }], guard := none }) (v := ?_) rfl (by kernel_rfl) (by kernel_rfl) (by kernel_rfl) (fun _ _ _ h => h) (Or.inl ⟨by rfl, ?_⟩) (by assumption) ?_
          rotate_left
          · intro w hSw
            try dsimp only at hSw
            clear hSw
            go_simp
            try (with_reducible rfl)
          try simp only [Act.put, List.setIfInBounds_toArray, List.set_cons_zero, List.set_cons_succ]
          refine wpAnyH_take (i := 15) (oi := { dst := some 86, op := Op.move (Operand.tmp 85), type := 4, pos := "law.go:151", after := #[{ on := 14, ground := Ground.data }, { on := 12, ground := Ground.chain }], guard := none }) (v := ?_) rfl (by kernel_rfl) (by kernel_rfl) (by kernel_rfl) (fun _ _ _ h => h) (Or.inl ⟨by rfl, ?_⟩) (by assumption) ?_
          rotate_left
          · intro w hSw
            try dsimp only at hSw
            clear hSw
            go_simp
            try (with_reducible rfl)
          try simp only [Act.put, List.setIfInBounds_toArray, List.set_cons_zero, List.set_cons_succ]
          refine wpAnyH_take (i := 16) (oi := { dst := some 87, op := Op.move (Operand.tmp 14), type := 27, pos := "law.go:151", after := #[{ on := 15, ground := Ground.guard }], guard := some (15, true) }) (v := ?_) rfl (by kernel_rfl) (by kernel_rfl) (by kernel_rfl) (fun _ _ _ h => h) (Or.inl ⟨by rfl, ?_⟩) (by assumption) ?_
          rotate_left
          · intro w hSw
            try dsimp only at hSw
            clear hSw
            go_simp
            try (with_reducible rfl)
          try simp only [Act.put, List.setIfInBounds_toArray, List.set_cons_zero, List.set_cons_succ]
          refine wpAnyH_take (i := 17) (oi := { dst := some 88, op := Op.binOp BinOp.neq 27 (Operand.tmp 87) (Operand.const (Value.int IntKind.i64 0)) 27, type := 4, pos := "law.go:151", after := #[{ on := 16, ground := Ground.data }, { on := 15, ground := Ground.guard }], guard := some (15, true) }) (v := ?_) rfl (by kernel_rfl) (by kernel_rfl) (by kernel_rfl) (fun _ _ _ h => h) (Or.inl ⟨by rfl, ?_⟩) (by assumption) ?_
          rotate_left
          · intro w hSw
            try dsimp only at hSw
            clear hSw
            go_simp
            try (with_reducible rfl)
          try simp only [Act.put, List.setIfInBounds_toArray, List.set_cons_zero, List.set_cons_succ]
          refine wpAnyH_take (i := 18) (oi := { dst := some 89, op := Op.move (Operand.tmp 88), type := 4, pos := "law.go:151", after := #[{ on := 17, ground := Ground.data }, { on := 15, ground := Ground.chain }, { on := 15, ground := Ground.guard }], guard := some (15, true) }) (v := ?_) rfl (by kernel_rfl) (by kernel_rfl) (by kernel_rfl) (fun _ _ _ h => h) (Or.inl ⟨by rfl, ?_⟩) (by assumption) ?_
          rotate_left
          · intro w hSw
            try dsimp only at hSw
            clear hSw
            go_simp
            try (with_reducible rfl)
          try simp only [Act.put, List.setIfInBounds_toArray, List.set_cons_zero, List.set_cons_succ]
          refine wpAnyH_take (i := 19) (oi := { dst := some 90, op := Op.move (Operand.tmp 16), type := 27, pos := "law.go:151", after := #[{ on := 18, ground := Ground.guard }], guard := some (18, false) }) (v := ?_) rfl (by kernel_rfl) (by kernel_rfl) (by kernel_rfl) (fun _ _ _ h => h) (Or.inl ⟨by rfl, ?_⟩) (by assumption) ?_
          rotate_left
          · intro w hSw
            try dsimp only at hSw
            clear hSw
            go_simp
            try (with_reducible rfl)
          try simp only [Act.put, List.setIfInBounds_toArray, List.set_cons_zero, List.set_cons_succ]
          refine wpAnyH_take (i := 20) (oi := { dst := some 91, op := Op.binOp BinOp.neq 27 (Operand.tmp 90) (Operand.const (Value.int IntKind.i64 0)) 27, type := 4, pos := "law.go:151", after := #[{ on := 19, ground := Ground.data }, { on := 18, ground := Ground.guard }], guard := some (18, false) }) (v := ?_) rfl (by kernel_rfl) (by kernel_rfl) (by kernel_rfl) (fun _ _ _ h => h) (Or.inl ⟨by rfl, ?_⟩) (by assumption) ?_
          rotate_left
          · intro w hSw
            try dsimp only at hSw
            clear hSw
            go_simp
            try (with_reducible rfl)
          try simp only [Act.put, List.setIfInBounds_toArray, List.set_cons_zero, List.set_cons_succ]
          refine wpAnyH_take (i := 21) (oi := { dst := some 92, op := Op.pick (Operand.tmp 89) (Operand.const (Value.bool true)) (Operand.tmp 91), type := 4, pos := "law.go:151", after := #[{ on := 18, ground := Ground.data }, { on := 20, ground := Ground.data }, { on := 15, ground := Ground.guard }], guard := some (15, true) }) (v := ?_) rfl (by kernel_rfl) (by kernel_rfl) (by kernel_rfl) (fun _ _ _ h => h) (Or.inl ⟨by rfl, ?_⟩) (by assumption) ?_
          rotate_left
          · intro w hSw
            try dsimp only at hSw
            clear hSw
            go_simp
            try (with_reducible rfl)
          try simp only [Act.put, List.setIfInBounds_toArray, List.set_cons_zero, List.set_cons_succ]
          refine wpAnyH_take (i := 22) (oi := { dst := some 93, op := Op.move (Operand.tmp 92), type := 4, pos := "law.go:151", after := #[{ on := 21, ground := Ground.data }, { on := 18, ground := Ground.chain }, { on := 15, ground := Ground.guard }], guard := some (15, true) }) (v := ?_) rfl (by kernel_rfl) (by kernel_rfl) (by kernel_rfl) (fun _ _ _ h => h) (Or.inl ⟨by rfl, ?_⟩) (by assumption) ?_
          rotate_left
          · intro w hSw
            try dsimp only at hSw
            clear hSw
            go_simp
            try (with_reducible rfl)
          try simp only [Act.put, List.setIfInBounds_toArray, List.set_cons_zero, List.set_cons_succ]
          refine wpAnyH_take (i := 23) (oi := { dst := some 94, op := Op.move (Operand.tmp 13), type := 23, pos := "law.go:151", after := #[{ on := 22, ground := Ground.guard }], guard := some (22, false) }) (v := undef) rfl (by kernel_rfl) (by kernel_rfl) (by kernel_rfl) (fun _ _ _ h => h) (Or.inr ⟨by rfl, rfl⟩) (by assumption) ?_
          try simp only [Act.put, List.setIfInBounds_toArray, List.set_cons_zero, List.set_cons_succ]
          refine wpAnyH_take (i := 24) (oi := { dst := some 95, op := Op.move (Operand.tmp 15), type := 23, pos := "law.go:151", after := #[{ on := 22, ground := Ground.guard }], guard := some (22, false) }) (v := undef) rfl (by kernel_rfl) (by kernel_rfl) (by kernel_rfl) (fun _ _ _ h => h) (Or.inr ⟨by rfl, rfl⟩) (by assumption) ?_
          try simp only [Act.put, List.setIfInBounds_toArray, List.set_cons_zero, List.set_cons_succ]
          refine wpAnyH_take (i := 25) (oi := { dst := some 96, op := Op.call { callee := Callee.value (Operand.func 12), args := #[Operand.tmp 94, Operand.tmp 95], argTypes := #[23, 23] }, type := 4, pos := "law.go:151", after := #[{ on := 23, ground := Ground.data }, { on := 24, ground := Ground.data }, { on := 22, ground := Ground.chain }, { on := 22, ground := Ground.guard }], guard := some (22, false) }) (v := undef) rfl (by kernel_rfl) (by kernel_rfl) (by kernel_rfl) (fun _ _ _ h => h) (Or.inr ⟨by rfl, rfl⟩) (by assumption) ?_
          try simp only [Act.put, List.setIfInBounds_toArray, List.set_cons_zero, List.set_cons_succ]
          refine wpAnyH_take (i := 26) (oi := { dst := some 97, op := Op.load 38 (Operand.tmp 6), type := 38, pos := "law.go:151", after := #[{ on := 22, ground := Ground.guard }], guard := some (22, false) }) (v := undef) rfl (by kernel_rfl) (by kernel_rfl) (by kernel_rfl) (fun _ _ _ h => h) (Or.inr ⟨by rfl, rfl⟩) (by assumption) ?_
          try simp only [Act.put, List.setIfInBounds_toArray, List.set_cons_zero, List.set_cons_succ]
          refine wpAnyH_take (i := 27) (oi := { dst := some 98, op := Op.load 38 (Operand.tmp 7), type := 38, pos := "law.go:151", after := #[{ on := 22, ground := Ground.guard }], guard := some (22, false) }) (v := undef) rfl (by kernel_rfl) (by kernel_rfl) (by kernel_rfl) (fun _ _ _ h => h) (Or.inr ⟨by rfl, rfl⟩) (by assumption) ?_
          try simp only [Act.put, List.setIfInBounds_toArray, List.set_cons_zero, List.set_cons_succ]
          refine wpAnyH_take (i := 28) (oi := { dst := some 99, op := Op.call { callee := Callee.value (Operand.func 17), args := #[Operand.tmp 97, Operand.tmp 98], argTypes := #[38, 38] }, type := 4, pos := "law.go:151", after := #[{ on := 26, ground := Ground.data }, { on := 27, ground := Ground.data }, { on := 25, ground := Ground.chain }, { on := 22, ground := Ground.guard }], guard := some (22, false) }) (v := undef) rfl (by kernel_rfl) (by kernel_rfl) (by kernel_rfl) (fun _ _ _ h => h) (Or.inr ⟨by rfl, rfl⟩) (by assumption) ?_
          try simp only [Act.put, List.setIfInBounds_toArray, List.set_cons_zero, List.set_cons_succ]
          refine wpAnyH_take (i := 29) (oi := { dst := some 100, op := Op.binOp BinOp.eql 4 (Operand.tmp 96) (Operand.tmp 99) 4, type := 4, pos := "law.go:151", after := #[{ on := 25, ground := Ground.data }, { on := 28, ground := Ground.data }, { on := 22, ground := Ground.guard }], guard := some (22, false) }) (v := undef) rfl (by kernel_rfl) (by kernel_rfl) (by kernel_rfl) (fun _ _ _ h => h) (Or.inr ⟨by rfl, rfl⟩) (by assumption) ?_
          try simp only [Act.put, List.setIfInBounds_toArray, List.set_cons_zero, List.set_cons_succ]
          refine wpAnyH_take (i := 30) (oi := { dst := some 101, op := Op.pick (Operand.tmp 93) (Operand.const (Value.bool true)) (Operand.tmp 100), type := 4, pos := "law.go:151", after := #[{ on := 22, ground := Ground.data }, { on := 29, ground := Ground.data }, { on := 15, ground := Ground.guard }], guard := some (15, true) }) (v := ?_) rfl (by kernel_rfl) (by kernel_rfl) (by kernel_rfl) (fun _ _ _ h => h) (Or.inl ⟨by rfl, ?_⟩) (by assumption) ?_
          rotate_left
          · intro w hSw
            try dsimp only at hSw
            clear hSw
            go_simp
            try (with_reducible rfl)
          try simp only [Act.put, List.setIfInBounds_toArray, List.set_cons_zero, List.set_cons_succ]
          refine wpAnyH_take (i := 31) (oi := { dst := some 102, op := Op.pick (Operand.tmp 86) (Operand.tmp 101) (Operand.const (Value.bool false)), type := 4, pos := "law.go:151", after := #[{ on := 15, ground := Ground.data }, { on := 30, ground := Ground.data }], guard := none }) (v := ?_) rfl (by kernel_rfl) (by kernel_rfl) (by kernel_rfl) (fun _ _ _ h => h) (Or.inl ⟨by rfl, ?_⟩) (by assumption) ?_
          rotate_left
          · intro w hSw
            try dsimp only at hSw
            clear hSw
            go_simp
            try (with_reducible rfl)
          try simp only [Act.put, List.setIfInBounds_toArray, List.set_cons_zero, List.set_cons_succ]
          refine wpAnyH_take (i := 32) (oi := { dst := some 8, op := Op.assign (Operand.tmp 102), type := 4, pos := "law.go:151", after := #[{ on := 31, ground := Ground.data }, { on := 28, ground := Ground.chain }, { on := 0, ground := Ground.phase }, { on := 1, ground := Ground.phase }, { on := 2, ground := Ground.phase }, { on := 3, ground := Ground.phase }, { on := 4, ground := Ground.phase }, { on := 5, ground := Ground.phase }, { on := 6, ground := Ground.phase }, { on := 7, ground := Ground.phase }, { on := 8, ground := Ground.phase }, { on := 9, ground := Ground.phase }, { on := 10, ground := Ground.phase }, { on := 11, ground := Ground.phase }, { on := 12, ground := Ground.phase }, { on := 13, ground := Ground.phase }, { on := 14, ground := Ground.phase }, { on := 15, ground := Ground.phase }, { on := 16, ground := Ground.phase }, { on := 17, ground := Ground.phase }, { on := 18, ground := Ground.phase }, { on := 19, ground := Ground.phase }, { on := 20, ground := Ground.phase }, { on := 21, ground := Ground.phase }, { on := 22, ground := Ground.phase }, { on := 23, ground := Ground.phase }, { on := 24, ground := Ground.phase }, { on := 25, ground := Ground.phase }, { on := 26, ground := Ground.phase }, { on := 27, ground := Ground.phase }, { on := 28, ground := Ground.phase }, { on := 29, ground := Ground.phase }, { on := 30, ground := Ground.phase }, { on := 31, ground := Ground.phase }], guard := none }) (v := ?_) rfl (by kernel_rfl) (by kernel_rfl) (by kernel_rfl) (fun _ _ _ h => h) (Or.inl ⟨by rfl, ?_⟩) (by assumption) ?_
          rotate_left
          · intro w hSw
            try dsimp only at hSw
            clear hSw
            go_simp
            try (with_reducible rfl)
          try simp only [Act.put, List.setIfInBounds_toArray, List.set_cons_zero, List.set_cons_succ]
          refine wpAnyH_done (by kernel_rfl) ?_ _
          refine NoPanic.normal ?_
          go_wp2_with fail
          go_ret
          exact ⟨rfl, (below_dr HB0.out)⟩
      · have z1 : ((ec1 : Int) != 0) = true := by rw [bne_iff_ne]; omega
        have z3 : ((ec3 : Int) != 0) = true := by rw [bne_iff_ne]; omega
        clear t1  t3 
        go_wp2_with fail
        refine wp_region_noPanic ?_
        refine wp_region_held_drew (S := (fun w' => w'.heap[w.heap.size]? = some (.cells #[.int .u8 (x1.k : Int), .int .u8 (x1.n : Int), .int .u32 (x1.e : Int), .int .u32 (x1.l : Int), .int .u32 (x1.t : Int), .int .u32 (x1.g : Int), .int .u32 (x1.j : Int), .int .u32 (x1.v : Int), .int .u8 (x1.r : Int), .int .i64 x1.c, .int .u32 (x1.f : Int), .int .u32 (x1.o : Int), .slice A1 K1 C1] 25 (0, 0)) ∧ w'.heap[w.heap.size + 1]? = some (.cells #[.int .u8 (x2.k : Int), .int .u8 (x2.n : Int), .int .u32 (x2.e : Int), .int .u32 (x2.l : Int), .int .u32 (x2.t : Int), .int .u32 (x2.g : Int), .int .u32 (x2.j : Int), .int .u32 (x2.v : Int), .int .u8 (x2.r : Int), .int .i64 x2.c, .int .u32 (x2.f : Int), .int .u32 (x2.o : Int), .slice A2 K2 C2] 25 (0, 0)) ∧ w'.heap[w.heap.size + 1 + 1]? = some (.cells #[.int .u8 (y1.n : Int), .int .u32 (y1.e : Int), .int .u32 (y1.l : Int), .int .u32 (y1.s : Int), .int .u32 (y1.a : Int), .bool y1.p, .slice A3 K3 C3] 38 (0, 0)) ∧ w'.heap[w.heap.size + 1 + 1 + 1]? = some (.cells #[.int .u8 (y2.n : Int), .int .u32 (y2.e : Int), .int .u32 (y2.l : Int), .int .u32 (y2.s : Int), .int .u32 (y2.a : Int), .bool y2.p, .slice A4 K4 C4] 38 (0, 0)))) (by kernel_rfl) ?_ (fun hHeld => ?_)
        · exact ⟨HR0.out, HR1.out, HR2.out, HR3.out⟩
        refine wpAnyH_take (i := 0) (oi := { dst := some 71, op := Op.move (Operand.tmp 10), type := 27, pos := "law.go:151", after := #[], guard := none }) (v := ?_) rfl (by kernel_rfl) (by kernel_rfl) (by kernel_rfl) (fun _ _ _ h => h) (Or.inl ⟨by rfl, ?_⟩) (by assumption) ?_
        rotate_left
        · intro w hSw
          try dsimp only at hSw
          clear hSw
          go_simp
          try (with_reducible rfl)
        try simp only [Act.put, List.setIfInBounds_toArray, List.set_cons_zero, List.set_cons_succ]
        refine wpAnyH_take (i := 1) (oi := { dst := some 72, op := Op.binOp BinOp.neq 27 (Operand.tmp 71) (Operand.const (Value.int IntKind.i64 0)) 27, type := 4, pos := "law.go:151", after := #[{ on := 0, ground := Ground.data }], guard := none }) (v := ?_) rfl (by kernel_rfl) (by kernel_rfl) (by kernel_rfl) (fun _ _ _ h => h) (Or.inl ⟨by rfl, ?_⟩) (by assumption) ?_
        rotate_left
        · intro w hSw
          try dsimp only at hSw
          clear hSw
          go_simp
          try (with_reducible rfl)
        try simp only [Act.put, List.setIfInBounds_toArray, List.set_cons_zero, List.set_cons_succ]
        refine wpAnyH_take (i := 2) (oi := { dst := some 73, op := Op.move (Operand.tmp 72), type := 4, pos := "law.go:151", after := #[{ on := 1, ground := Ground.data }], guard := none }) (v := ?_) rfl (by kernel_rfl) (by kernel_rfl) (by kernel_rfl) (fun _ _ _ h => h) (Or.inl ⟨by rfl, ?_⟩) (by assumption) ?_
        rotate_left
        · intro w hSw
          try dsimp only at hSw
          clear hSw
          go_simp
          try (with_reducible rfl)
        try simp only [Act.put, List.setIfInBounds_toArray, List.set_cons_zero, List.set_cons_succ]
        refine wpAnyH_take (i := 3) (oi := { dst := some 74, op := Op.move (Operand.tmp 12), type := 27, pos := "law.go:151", after := #[{ on := 2, ground := Ground.guard }], guard := some (2, false) }) (v := undef) rfl (by kernel_rfl) (by kernel_rfl) (by kernel_rfl) (fun _ _ _ h => h) (Or.inr ⟨by rfl, rfl⟩) (by assumption) ?_
        try simp only [Act.put, List.setIfInBounds_toArray, List.set_cons_zero, List.set_cons_succ]
        refine wpAnyH_take (i := 4) (oi := { dst := some 75, op := Op.binOp BinOp.neq 27 (Operand.tmp 74) (Operand.const (Value.int IntKind.i64 0)) 27, type := 4, pos := "law.go:151", after := #[{ on := 3, ground := Ground.data }, { on := 2, ground := Ground.guard }], guard := some (2, false) }) (v := undef) rfl (by kernel_rfl) (by kernel_rfl) (by kernel_rfl) (fun _ _ _ h => h) (Or.inr ⟨by rfl, rfl⟩) (by assumption) ?_
        try simp only [Act.put, List.setIfInBounds_toArray, List.set_cons_zero, List.set_cons_succ]
        refine wpAnyH_take (i := 5) (oi := { dst := some 76, op := Op.pick (Operand.tmp 73) (Operand.const (Value.bool true)) (Operand.tmp 75), type := 4, pos := "law.go:151", after := #[{ on := 2, ground := Ground.data }, { on := 4, ground := Ground.data }], guard := none }) (v := ?_) rfl (by kernel_rfl) (by kernel_rfl) (by kernel_rfl) (fun _ _ _ h => h) (Or.inl ⟨by rfl, ?_⟩) (by assumption) ?_
        rotate_left
        · intro w hSw
          try dsimp only at hSw
          clear hSw
          go_simp
          try (with_reducible rfl)
        try simp only [Act.put, List.setIfInBounds_toArray, List.set_cons_zero, List.set_cons_succ]
        refine wpAnyH_take (i := 6) (oi := { dst := some 77, op := Op.move (Operand.tmp 76), type := 4, pos := "law.go:151", after := #[{ on := 5, ground := Ground.data }, { on := 2, ground := Ground.chain }], guard := none }) (v := ?_) rfl (by kernel_rfl) (by kernel_rfl) (by kernel_rfl) (fun _ _ _ h => h) (Or.inl ⟨by rfl, ?_⟩) (by assumption) ?_
        rotate_left
        · intro w hSw
          try dsimp only at hSw
          clear hSw
          go_simp
          try (with_reducible rfl)
        try simp only [Act.put, List.setIfInBounds_toArray, List.set_cons_zero, List.set_cons_succ]
        refine wpAnyH_take (i := 7) (oi := { dst := some 78, op := Op.move (Operand.tmp 9), type := 23, pos := "law.go:151", after := #[{ on := 6, ground := Ground.guard }], guard := some (6, false) }) (v := undef) rfl (by kernel_rfl) (by kernel_rfl) (by kernel_rfl) (fun _ _ _ h => h) (Or.inr ⟨by rfl, rfl⟩) (by assumption) ?_
        try simp only [Act.put, List.setIfInBounds_toArray, List.set_cons_zero, List.set_cons_succ]
        refine wpAnyH_take (i := 8) (oi := { dst := some 79, op := Op.move (Operand.tmp 11), type := 23, pos := "law.go:151", after := #[{ on := 6, ground := Ground.guard }], guard := some (6, false) }) (v := undef) rfl (by kernel_rfl) (by kernel_rfl) (by kernel_rfl) (fun _ _ _ h => h) (Or.inr ⟨by rfl, rfl⟩) (by assumption) ?_
        try simp only [Act.put, List.setIfInBounds_toArray, List.set_cons_zero, List.set_cons_succ]
        refine wpAnyH_take (i := 9) (oi := { dst := some 80, op := Op.call { callee := Callee.value (Operand.func 12), args := #[Operand.tmp 78, Operand.tmp 79], argTypes := #[23, 23] }, type := 4, pos := "law.go:151", after := #[{ on := 7, ground := Ground.data }, { on := 8, ground := Ground.data }, { on := 6, ground := Ground.chain }, { on := 6, ground := Ground.guard }], guard := some (6, false) }) (v := undef) rfl (by kernel_rfl) (by kernel_rfl) (by kernel_rfl) (fun _ _ _ h => h) (Or.inr ⟨by rfl, rfl⟩) (by assumption) ?_
        try simp only [Act.put, List.setIfInBounds_toArray, List.set_cons_zero, List.set_cons_succ]
        refine wpAnyH_take (i := 10) (oi := { dst := some 81, op := Op.load 25 (Operand.tmp 4), type := 25, pos := "law.go:151", after := #[{ on := 6, ground := Ground.guard }], guard := some (6, false) }) (v := undef) rfl (by kernel_rfl) (by kernel_rfl) (by kernel_rfl) (fun _ _ _ h => h) (Or.inr ⟨by rfl, rfl⟩) (by assumption) ?_
        try simp only [Act.put, List.setIfInBounds_toArray, List.set_cons_zero, List.set_cons_succ]
        refine wpAnyH_take (i := 11) (oi := { dst := some 82, op := Op.load 25 (Operand.tmp 5), type := 25, pos := "law.go:151", after := #[{ on := 6, ground := Ground.guard }], guard := some (6, false) }) (v := undef) rfl (by kernel_rfl) (by kernel_rfl) (by kernel_rfl) (fun _ _ _ h => h) (Or.inr ⟨by rfl, rfl⟩) (by assumption) ?_
        try simp only [Act.put, List.setIfInBounds_toArray, List.set_cons_zero, List.set_cons_succ]
        refine wpAnyH_take (i := 12) (oi := { dst := some 83, op := Op.call { callee := Callee.value (Operand.func 13), args := #[Operand.tmp 81, Operand.tmp 82], argTypes := #[25, 25] }, type := 4, pos := "law.go:151", after := #[{ on := 10, ground := Ground.data }, { on := 11, ground := Ground.data }, { on := 9, ground := Ground.chain }, { on := 6, ground := Ground.guard }], guard := some (6, false) }) (v := undef) rfl (by kernel_rfl) (by kernel_rfl) (by kernel_rfl) (fun _ _ _ h => h) (Or.inr ⟨by rfl, rfl⟩) (by assumption) ?_
        try simp only [Act.put, List.setIfInBounds_toArray, List.set_cons_zero, List.set_cons_succ]
        refine wpAnyH_take (i := 13) (oi := { dst := some 84, op := Op.binOp BinOp.eql 4 (Operand.tmp 80) (Operand.tmp 83) 4, type := 4, pos := "law.go:151", after := #[{ on := 9, ground := Ground.data }, { on := 12, ground := Ground.data }, { on := 6, ground := Ground.guard }], guard := some (6, false) }) (v := undef) rfl (by kernel_rfl) (by kernel_rfl) (by kernel_rfl) (fun _ _ _ h => h) (Or.inr ⟨by rfl, rfl⟩) (by assumption) ?_
        try simp only [Act.put, List.setIfInBounds_toArray, List.set_cons_zero, List.set_cons_succ]
        refine wpAnyH_take (i := 14) (oi := { dst := some 85, op := Op.pick (Operand.tmp 77) (Operand.const (Value.bool true)) (Operand.tmp 84), type := 4, pos := "law.go:151", after := #[{ on := 6, ground := Ground.data }, { on := 13, ground := Ground.data }], guard := none }) (v := ?_) rfl (by kernel_rfl) (by kernel_rfl) (by kernel_rfl) (fun _ _ _ h => h) (Or.inl ⟨by rfl, ?_⟩) (by assumption) ?_
        rotate_left
        · intro w hSw
          try dsimp only at hSw
          clear hSw
          go_simp
          try (with_reducible rfl)
        try simp only [Act.put, List.setIfInBounds_toArray, List.set_cons_zero, List.set_cons_succ]
        refine wpAnyH_take (i := 15) (oi := { dst := some 86, op := Op.move (Operand.tmp 85), type := 4, pos := "law.go:151", after := #[{ on := 14, ground := Ground.data }, { on := 12, ground := Ground.chain }], guard := none }) (v := ?_) rfl (by kernel_rfl) (by kernel_rfl) (by kernel_rfl) (fun _ _ _ h => h) (Or.inl ⟨by rfl, ?_⟩) (by assumption) ?_
        rotate_left
        · intro w hSw
          try dsimp only at hSw
          clear hSw
          go_simp
          try (with_reducible rfl)
        try simp only [Act.put, List.setIfInBounds_toArray, List.set_cons_zero, List.set_cons_succ]
        refine wpAnyH_take (i := 16) (oi := { dst := some 87, op := Op.move (Operand.tmp 14), type := 27, pos := "law.go:151", after := #[{ on := 15, ground := Ground.guard }], guard := some (15, true) }) (v := ?_) rfl (by kernel_rfl) (by kernel_rfl) (by kernel_rfl) (fun _ _ _ h => h) (Or.inl ⟨by rfl, ?_⟩) (by assumption) ?_
        rotate_left
        · intro w hSw
          try dsimp only at hSw
          clear hSw
          go_simp
          try (with_reducible rfl)
        try simp only [Act.put, List.setIfInBounds_toArray, List.set_cons_zero, List.set_cons_succ]
        refine wpAnyH_take (i := 17) (oi := { dst := some 88, op := Op.binOp BinOp.neq 27 (Operand.tmp 87) (Operand.const (Value.int IntKind.i64 0)) 27, type := 4, pos := "law.go:151", after := #[{ on := 16, ground := Ground.data }, { on := 15, ground := Ground.guard }], guard := some (15, true) }) (v := ?_) rfl (by kernel_rfl) (by kernel_rfl) (by kernel_rfl) (fun _ _ _ h => h) (Or.inl ⟨by rfl, ?_⟩) (by assumption) ?_
        rotate_left
        · intro w hSw
          try dsimp only at hSw
          clear hSw
          go_simp
          try (with_reducible rfl)
        try simp only [Act.put, List.setIfInBounds_toArray, List.set_cons_zero, List.set_cons_succ]
        refine wpAnyH_take (i := 18) (oi := { dst := some 89, op := Op.move (Operand.tmp 88), type := 4, pos := "law.go:151", after := #[{ on := 17, ground := Ground.data }, { on := 15, ground := Ground.chain }, { on := 15, ground := Ground.guard }], guard := some (15, true) }) (v := ?_) rfl (by kernel_rfl) (by kernel_rfl) (by kernel_rfl) (fun _ _ _ h => h) (Or.inl ⟨by rfl, ?_⟩) (by assumption) ?_
        rotate_left
        · intro w hSw
          try dsimp only at hSw
          clear hSw
          go_simp
          try (with_reducible rfl)
        try simp only [Act.put, List.setIfInBounds_toArray, List.set_cons_zero, List.set_cons_succ]
        refine wpAnyH_take (i := 19) (oi := { dst := some 90, op := Op.move (Operand.tmp 16), type := 27, pos := "law.go:151", after := #[{ on := 18, ground := Ground.guard }], guard := some (18, false) }) (v := undef) rfl (by kernel_rfl) (by kernel_rfl) (by kernel_rfl) (fun _ _ _ h => h) (Or.inr ⟨by rfl, rfl⟩) (by assumption) ?_
        try simp only [Act.put, List.setIfInBounds_toArray, List.set_cons_zero, List.set_cons_succ]
        refine wpAnyH_take (i := 20) (oi := { dst := some 91, op := Op.binOp BinOp.neq 27 (Operand.tmp 90) (Operand.const (Value.int IntKind.i64 0)) 27, type := 4, pos := "law.go:151", after := #[{ on := 19, ground := Ground.data }, { on := 18, ground := Ground.guard }], guard := some (18, false) }) (v := undef) rfl (by kernel_rfl) (by kernel_rfl) (by kernel_rfl) (fun _ _ _ h => h) (Or.inr ⟨by rfl, rfl⟩) (by assumption) ?_
        try simp only [Act.put, List.setIfInBounds_toArray, List.set_cons_zero, List.set_cons_succ]
        refine wpAnyH_take (i := 21) (oi := { dst := some 92, op := Op.pick (Operand.tmp 89) (Operand.const (Value.bool true)) (Operand.tmp 91), type := 4, pos := "law.go:151", after := #[{ on := 18, ground := Ground.data }, { on := 20, ground := Ground.data }, { on := 15, ground := Ground.guard }], guard := some (15, true) }) (v := ?_) rfl (by kernel_rfl) (by kernel_rfl) (by kernel_rfl) (fun _ _ _ h => h) (Or.inl ⟨by rfl, ?_⟩) (by assumption) ?_
        rotate_left
        · intro w hSw
          try dsimp only at hSw
          clear hSw
          go_simp
          try (with_reducible rfl)
        try simp only [Act.put, List.setIfInBounds_toArray, List.set_cons_zero, List.set_cons_succ]
        refine wpAnyH_take (i := 22) (oi := { dst := some 93, op := Op.move (Operand.tmp 92), type := 4, pos := "law.go:151", after := #[{ on := 21, ground := Ground.data }, { on := 18, ground := Ground.chain }, { on := 15, ground := Ground.guard }], guard := some (15, true) }) (v := ?_) rfl (by kernel_rfl) (by kernel_rfl) (by kernel_rfl) (fun _ _ _ h => h) (Or.inl ⟨by rfl, ?_⟩) (by assumption) ?_
        rotate_left
        · intro w hSw
          try dsimp only at hSw
          clear hSw
          go_simp
          try (with_reducible rfl)
        try simp only [Act.put, List.setIfInBounds_toArray, List.set_cons_zero, List.set_cons_succ]
        refine wpAnyH_take (i := 23) (oi := { dst := some 94, op := Op.move (Operand.tmp 13), type := 23, pos := "law.go:151", after := #[{ on := 22, ground := Ground.guard }], guard := some (22, false) }) (v := undef) rfl (by kernel_rfl) (by kernel_rfl) (by kernel_rfl) (fun _ _ _ h => h) (Or.inr ⟨by rfl, rfl⟩) (by assumption) ?_
        try simp only [Act.put, List.setIfInBounds_toArray, List.set_cons_zero, List.set_cons_succ]
        refine wpAnyH_take (i := 24) (oi := { dst := some 95, op := Op.move (Operand.tmp 15), type := 23, pos := "law.go:151", after := #[{ on := 22, ground := Ground.guard }], guard := some (22, false) }) (v := undef) rfl (by kernel_rfl) (by kernel_rfl) (by kernel_rfl) (fun _ _ _ h => h) (Or.inr ⟨by rfl, rfl⟩) (by assumption) ?_
        try simp only [Act.put, List.setIfInBounds_toArray, List.set_cons_zero, List.set_cons_succ]
        refine wpAnyH_take (i := 25) (oi := { dst := some 96, op := Op.call { callee := Callee.value (Operand.func 12), args := #[Operand.tmp 94, Operand.tmp 95], argTypes := #[23, 23] }, type := 4, pos := "law.go:151", after := #[{ on := 23, ground := Ground.data }, { on := 24, ground := Ground.data }, { on := 22, ground := Ground.chain }, { on := 22, ground := Ground.guard }], guard := some (22, false) }) (v := undef) rfl (by kernel_rfl) (by kernel_rfl) (by kernel_rfl) (fun _ _ _ h => h) (Or.inr ⟨by rfl, rfl⟩) (by assumption) ?_
        try simp only [Act.put, List.setIfInBounds_toArray, List.set_cons_zero, List.set_cons_succ]
        refine wpAnyH_take (i := 26) (oi := { dst := some 97, op := Op.load 38 (Operand.tmp 6), type := 38, pos := "law.go:151", after := #[{ on := 22, ground := Ground.guard }], guard := some (22, false) }) (v := undef) rfl (by kernel_rfl) (by kernel_rfl) (by kernel_rfl) (fun _ _ _ h => h) (Or.inr ⟨by rfl, rfl⟩) (by assumption) ?_
        try simp only [Act.put, List.setIfInBounds_toArray, List.set_cons_zero, List.set_cons_succ]
        refine wpAnyH_take (i := 27) (oi := { dst := some 98, op := Op.load 38 (Operand.tmp 7), type := 38, pos := "law.go:151", after := #[{ on := 22, ground := Ground.guard }], guard := some (22, false) }) (v := undef) rfl (by kernel_rfl) (by kernel_rfl) (by kernel_rfl) (fun _ _ _ h => h) (Or.inr ⟨by rfl, rfl⟩) (by assumption) ?_
        try simp only [Act.put, List.setIfInBounds_toArray, List.set_cons_zero, List.set_cons_succ]
        refine wpAnyH_take (i := 28) (oi := { dst := some 99, op := Op.call { callee := Callee.value (Operand.func 17), args := #[Operand.tmp 97, Operand.tmp 98], argTypes := #[38, 38] }, type := 4, pos := "law.go:151", after := #[{ on := 26, ground := Ground.data }, { on := 27, ground := Ground.data }, { on := 25, ground := Ground.chain }, { on := 22, ground := Ground.guard }], guard := some (22, false) }) (v := undef) rfl (by kernel_rfl) (by kernel_rfl) (by kernel_rfl) (fun _ _ _ h => h) (Or.inr ⟨by rfl, rfl⟩) (by assumption) ?_
        try simp only [Act.put, List.setIfInBounds_toArray, List.set_cons_zero, List.set_cons_succ]
        refine wpAnyH_take (i := 29) (oi := { dst := some 100, op := Op.binOp BinOp.eql 4 (Operand.tmp 96) (Operand.tmp 99) 4, type := 4, pos := "law.go:151", after := #[{ on := 25, ground := Ground.data }, { on := 28, ground := Ground.data }, { on := 22, ground := Ground.guard }], guard := some (22, false) }) (v := undef) rfl (by kernel_rfl) (by kernel_rfl) (by kernel_rfl) (fun _ _ _ h => h) (Or.inr ⟨by rfl, rfl⟩) (by assumption) ?_
        try simp only [Act.put, List.setIfInBounds_toArray, List.set_cons_zero, List.set_cons_succ]
        refine wpAnyH_take (i := 30) (oi := { dst := some 101, op := Op.pick (Operand.tmp 93) (Operand.const (Value.bool true)) (Operand.tmp 100), type := 4, pos := "law.go:151", after := #[{ on := 22, ground := Ground.data }, { on := 29, ground := Ground.data }, { on := 15, ground := Ground.guard }], guard := some (15, true) }) (v := ?_) rfl (by kernel_rfl) (by kernel_rfl) (by kernel_rfl) (fun _ _ _ h => h) (Or.inl ⟨by rfl, ?_⟩) (by assumption) ?_
        rotate_left
        · intro w hSw
          try dsimp only at hSw
          clear hSw
          go_simp
          try (with_reducible rfl)
        try simp only [Act.put, List.setIfInBounds_toArray, List.set_cons_zero, List.set_cons_succ]
        refine wpAnyH_take (i := 31) (oi := { dst := some 102, op := Op.pick (Operand.tmp 86) (Operand.tmp 101) (Operand.const (Value.bool false)), type := 4, pos := "law.go:151", after := #[{ on := 15, ground := Ground.data }, { on := 30, ground := Ground.data }], guard := none }) (v := ?_) rfl (by kernel_rfl) (by kernel_rfl) (by kernel_rfl) (fun _ _ _ h => h) (Or.inl ⟨by rfl, ?_⟩) (by assumption) ?_
        rotate_left
        · intro w hSw
          try dsimp only at hSw
          clear hSw
          go_simp
          try (with_reducible rfl)
        try simp only [Act.put, List.setIfInBounds_toArray, List.set_cons_zero, List.set_cons_succ]
        refine wpAnyH_take (i := 32) (oi := { dst := some 8, op := Op.assign (Operand.tmp 102), type := 4, pos := "law.go:151", after := #[{ on := 31, ground := Ground.data }, { on := 28, ground := Ground.chain }, { on := 0, ground := Ground.phase }, { on := 1, ground := Ground.phase }, { on := 2, ground := Ground.phase }, { on := 3, ground := Ground.phase }, { on := 4, ground := Ground.phase }, { on := 5, ground := Ground.phase }, { on := 6, ground := Ground.phase }, { on := 7, ground := Ground.phase }, { on := 8, ground := Ground.phase }, { on := 9, ground := Ground.phase }, { on := 10, ground := Ground.phase }, { on := 11, ground := Ground.phase }, { on := 12, ground := Ground.phase }, { on := 13, ground := Ground.phase }, { on := 14, ground := Ground.phase }, { on := 15, ground := Ground.phase }, { on := 16, ground := Ground.phase }, { on := 17, ground := Ground.phase }, { on := 18, ground := Ground.phase }, { on := 19, ground := Ground.phase }, { on := 20, ground := Ground.phase }, { on := 21, ground := Ground.phase }, { on := 22, ground := Ground.phase }, { on := 23, ground := Ground.phase }, { on := 24, ground := Ground.phase }, { on := 25, ground := Ground.phase }, { on := 26, ground := Ground.phase }, { on := 27, ground := Ground.phase }, { on := 28, ground := Ground.phase }, { on := 29, ground := Ground.phase }, { on := 30, ground := Ground.phase }, { on := 31, ground := Ground.phase }], guard := none }) (v := ?_) rfl (by kernel_rfl) (by kernel_rfl) (by kernel_rfl) (fun _ _ _ h => h) (Or.inl ⟨by rfl, ?_⟩) (by assumption) ?_
        rotate_left
        · intro w hSw
          try dsimp only at hSw
          clear hSw
          go_simp
          try (with_reducible rfl)
        try simp only [Act.put, List.setIfInBounds_toArray, List.set_cons_zero, List.set_cons_succ]
        refine wpAnyH_done (by kernel_rfl) ?_ _
        refine NoPanic.normal ?_
        go_wp2_with fail
        go_ret
        exact ⟨rfl, (below_dr HB0.out)⟩

theorem cut100 {w : World} {A : Option Addr} {L C : Nat} {zs : List Int} (h : IsRow .u8 w A L C zs) : ∃ (K : Nat) (l : List UInt8), L ≤ C ∧ C ≤ 9223372036854775807 ∧ K ≤ C ∧ K ≤ 100 ∧
    Hid ((100 : Int) < (L : Int) ∧ (K : Int) = 100 ∨ ¬ (100 : Int) < (L : Int) ∧ (K : Int) = (L : Int)) ∧ Rd w (.slice A K C) l ∧ K = l.length := by
  have hb := h.bounds
  by_cases hk : L ≤ 100
  · obtain ⟨l, hl, hrd⟩ := h.rd L (Nat.le_refl _)
    exact ⟨L, l, hb.1, hb.2.1, hb.1, hk, hid (.inr ⟨by omega, rfl⟩), hrd, hl.symm⟩
  · obtain ⟨l, hl, hrd⟩ := h.rd 100 (by omega)
    exact ⟨100, l, hb.1, hb.2.1, by omega, Nat.le_refl _, hid (.inl ⟨by omega, rfl⟩), hrd, hl.symm⟩

set_option maxHeartbeats 1000000 in
theorem walk (v0 : Value) (v1 : Value) (v2 : Value) (v3 : Value) (w : World) (w0 : IsNote2 w v0) (w1 : IsNote2 w v1) (w2 : IsPacket2 w v2) (w3 : IsPacket2 w v3) :
    Calls Try.prog 8 #[v0, v1, v2, v3] w fun e w' => e = .returned (.bool true) ∧ Below w.heap.size w w' := by
  obtain ⟨x1, A1, L1, C1, z1, rfl, hx1, hi1, ho1⟩ := w0
  obtain ⟨x2, A2, L2, C2, z2, rfl, hx2, hi2, ho2⟩ := w1
  obtain ⟨y1, A3, L3, C3, z3, rfl, hx3, hi3, ho3⟩ := w2
  obtain ⟨y2, A4, L4, C4, z4, rfl, hx4, hi4, ho4⟩ := w3
  obtain ⟨K1, l1, a1, b1, c1, d1, m1, r1, e1⟩ := cut100 hi1
  obtain ⟨K2, l2, a2, b2, c2, d2, m2, r2, e2⟩ := cut100 hi2
  obtain ⟨K3, l3, a3, b3, c3, d3, m3, r3, e3⟩ := cut100 hi3
  obtain ⟨K4, l4, a4, b4, c4, d4, m4, r4, e4⟩ := cut100 hi4
  exact na_all { x1 with b := l1 } { x2 with b := l2 } { y1 with b := l3 } { y2 with b := l4 } A1 A2 A3 A4 C1 C2 C3 C4 L1 L2 L3 L4 K1 K2 K3 K4 w
    b1 a1 c1 d1 m1 b2 a2 c2 d2 m2 b3 a3 c3 d3 m3 b4 a4 c4 d4 m4 (ho1 K1) (ho2 K2) (ho3 K3) (ho4 K4) hx1 hx2 hx3 hx4 r1 e1 r2 e2 r3 e3 r4 e4

/-! ### THE ROW's STEP -/
set_option maxRecDepth 100000 in
theorem lifted (os : Os) (started : os.Started) (H : Type) (enc : TypeId × Value → H) :
    ReturnsInHanded {} Try.checked os 8 .any (Rows.noteApartSpec.pre6 enc Try.prog Try.f8 Rows.noteApartRow.domain false) (Rows.noteApartSpec.post enc Try.prog Try.f8 false true false false) := by
  refine returnsInHanded_of_change (C := Try.checked) own started (by kernel_rfl) Try.func8
    (ChangeSpec.witness6 (enc := enc) (C := Try.checked) false ⟨#[], #[.agg #[.int .u8 0, .int .u8 0, .int .u32 0, .int .u32 0, .int .u32 0, .int .u32 0, .int .u32 0, .int .u32 0, .int .u8 0, .int .i64 0, .int .u32 0, .int .u32 0, .slice none 0 0], .agg #[.int .u8 0, .int .u8 0, .int .u32 0, .int .u32 0, .int .u32 0, .int .u32 0, .int .u32 0, .int .u32 0, .int .u8 0, .int .i64 0, .int .u32 0, .int .u32 0, .slice none 0 0], .agg #[.int .u8 0, .int .u32 0, .int .u32 0, .int .u32 0, .int .u32 0, .bool false, .slice none 0 0], .agg #[.int .u8 0, .int .u32 0, .int .u32 0, .int .u32 0, .int .u32 0, .bool false, .slice none 0 0]], []⟩ 8 (by kernel_rfl) (by kernel_rfl) (by kernel_rfl) (by kernel_rfl)) ?_
  intro W base args ds gs before hval0 hW hcnd _
  have hval : ∀ (j : Nat) t v, Try.f8.params[j]? = some t → args[j]? = some v → Value.okWide Try.prog W .any base t v := hval0
  have hW' := hW
  obtain ⟨p, q, hA0, hV, rfl, hfz, hnd⟩ := hW
  have hA : DataW.TrodAll enc Try.prog W 0 (fun _ => true) true Try.f8.params.toList args.toList ds p := hA0
  rw [Try.params8] at hA hval
  obtain ⟨v0, vs0, d0, ds0, p0, q0, hargs, rfl, rfl, h0, r0⟩ := trodAll_cons hA
  obtain ⟨v1, vs1, d1, ds1, p1, q1, rfl, rfl, rfl, h1, r1⟩ := trodAll_cons r0
  obtain ⟨v2, vs2, d2, ds2, p2, q2, rfl, rfl, rfl, h2, r2⟩ := trodAll_cons r1
  obtain ⟨v3, vs3, d3, ds3, p3, q3, rfl, rfl, rfl, h3, r3⟩ := trodAll_cons r2
  obtain ⟨rfl, rfl, rfl⟩ := trodAll_nil r3
  obtain rfl : args = #[v0, v1, v2, v3] := by cases args; simp_all
  obtain ⟨rfl, rfl⟩ := trodVars_none hV
  have k0 := h0
  have lt0 : ∀ x ∈ p0, x.block < W.heap.size := by obtain ⟨m, hm⟩ := k0; exact DataW.trod_lt m _ _ _ hm
  have k1 := h1
  have lt1 : ∀ x ∈ p1, x.block < W.heap.size := by obtain ⟨m, hm⟩ := k1; exact DataW.trod_lt m _ _ _ hm
  have k2 := h2
  have lt2 : ∀ x ∈ p2, x.block < W.heap.size := by obtain ⟨m, hm⟩ := k2; exact DataW.trod_lt m _ _ _ hm
  have k3 := h3
  have lt3 : ∀ x ∈ p3, x.block < W.heap.size := by obtain ⟨m, hm⟩ := k3; exact DataW.trod_lt m _ _ _ hm
  have w0 : IsNote2 W v0 := isNote2_of (hval 0 25 v0 rfl rfl) h0
  have w1 : IsNote2 W v1 := isNote2_of (hval 1 25 v1 rfl rfl) h1
  have w2 : IsPacket2 W v2 := isPacket2_of (hval 2 38 v2 rfl rfl) h2
  have w3 : IsPacket2 W v3 := isPacket2_of (hval 3 38 v3 rfl rfl) h3
  clear hA0 hval0
  refine (walk v0 v1 v2 v3 W w0 w1 w2 w3).mono fun e W' ⟨he, bel⟩ => ?_
  subst he
  exact ⟨_, rfl, _, _, _, [], _, [], hW', trodAll_mk1 (shut_bool Try.underlying4 _), (trodAll_cons_mk (Below.trod laidOut (by kernel_rfl) (of_decide_eq_true (by kernel_rfl)) k0 bel lt0) (trodAll_cons_mk (Below.trod laidOut (by kernel_rfl) (of_decide_eq_true (by kernel_rfl)) k1 bel lt1) (trodAll_cons_mk (Below.trod laidOut (by kernel_rfl) (of_decide_eq_true (by kernel_rfl)) k2 bel lt2) (trodAll_cons_mk (Below.trod laidOut (by kernel_rfl) (of_decide_eq_true (by kernel_rfl)) k3 bel lt3) trodAll_mk0)))), rfl, bel.frame _, fun h => by cases h⟩

theorem over : Rows.noteApartRow.holds Try.pinned (OpenSpec.ofChange Rows.noteApartSpec) :=
  OpenClaim.holds_of_wide 8 Try.f8 rfl rfl rfl rfl rfl rfl rfl ⟨rfl, rfl, rfl, rfl, rfl⟩ rfl rfl rfl rfl rfl (by kernel_rfl) Try.func8 (by kernel_rfl)
    (of_decide_eq_true (by kernel_rfl)) (by unfold Func.isWrapper; first | (rw [if_pos (by decide +kernel)]; kernel_rfl) | (rw [if_neg (by decide +kernel)]; exact ⟨rfl, rfl⟩))
    (fun os started H enc _ => lifted os started H enc)

/-- THE STATEMENT -/
theorem noteApart_holds : Rows.NoteApartSaid := over
#print axioms noteApart_holds
end Go.Proofs.Ytafpgglebjllbaa.noteApart
