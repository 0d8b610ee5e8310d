/-
  NoteBursts: bytes of a note or a packet of which bits are turned that stand within 32 that follow one another are read as none of these. No condition.
  (The frame behind the walk is the guide's shell, at these parameters.)
-/
import Derived.Test.YtafpgglebjllbaaRows
import Derived.WalkKit
import Derived.Test.YtafpgglebjllbaaNotePk
import Derived.Test.YtafpgglebjllbaaNoteYNP
import Derived.Test.YtafpgglebjllbaaNoteGN
import Derived.Test.YtafpgglebjllbaaAwake4
import Derived.Test.YtafpgglebjllbaaNoteZ
import Derived.Test.YtafpgglebjllbaaNoteO
import Derived.Test.YtafpgglebjllbaaNoteNk
import Derived.Test.YtafpgglebjllbaaTurn
import Derived.Test.YtafpgglebjllbaaBurst
import Derived.ProofKit
import Derived.Deep.CutRange
import Derived.RegionTactic
import Derived.Deep.Cut
import Derived.OpenShut
import Derived.ShutString
import Derived.ChangeOld
import Derived.Below
namespace Go.Proofs.Ytafpgglebjllbaa.noteBursts
open Go.ChangeShapes Go.WideShapes Go.ChangeAt Go.RowKit
open Go.ChangeMaps (open_string shut_string)
set_option linter.unusedVariables false

theorem own : ownKnob Try.prog.godebug = none := by kernel_rfl
theorem laidOut : laidOutB Try.prog = true := by kernel_rfl

theorem below_behind1 {B : Nat} {w w' : World} (h : Below B w w') : Below B w w'.drew := ⟨h.os, h.tape, h.output, h.size, h.block⟩

theorem ans_bad {X : Type} {ok : X → Prop} {enc : X → List UInt8} {zero : X} {p : List UInt8} {x : X} {e : Int} (h : Knot.uerr p ≠ 0) (ha : Note.Ans ok enc zero p x e) : (e == 0) = false := by
  rw [beq_eq_false_iff_ne]
  rcases ha with ⟨_, _, rfl⟩ | ⟨a, _⟩ | ⟨a, _⟩
  · exact fun e => h (by omega)
  · exact absurd a h
  · exact absurd a h

theorem heap_new1 (w : World) (o1 o2 : Obj) : ((w.alloc o1).alloc o2).heap[w.heap.size + 1]? = some o2 := by
  have := heap_alloc_new (w.alloc o1) o2
  rwa [show (w.alloc o1).heap.size = w.heap.size + 1 by simp] at this

theorem odd_or (q : Nat) (hq : q < 4294967296) : ∃ pat : BitVec 32, pat.getLsbD 0 = true ∧ Go.bits .or .u32 (q : Int) 1 = (pat.toNat : Int) := by
  refine ⟨BitVec.ofNat 32 q ||| 1#32, by simp, ?_⟩
  rw [show ((1 : Int)) = ((1 : Nat) : Int) from rfl, u32_or_nat q 1 hq (by omega), BitVec.toNat_or]
  simp [Nat.mod_eq_of_lt hq]

set_option maxRecDepth 100000 in
set_option maxHeartbeats 8000000 in
theorem nb_ss (x : Note.N) (y : Note.P) (A1 A2 : Option Addr) (C1 C2 : Nat) (K1 : Nat) (hK1 : K1 ≤ 100) (K2 : Nat) (hK2 : K2 ≤ 100) (q1 q2 : Nat) (pat : BitVec 32) (w : World) (hq1 : q1 < 65536) (hq2 : q2 < 4294967296) (HP0 : Hid (pat.getLsbD 0 = true)) (HPE : Hid (Go.bits .or .u32 (q2 : Int) 1 = (pat.toNat : Int))) (hC1 : C1 ≤ 9223372036854775807) (hC2 : C2 ≤ 9223372036854775807) (hLC1 : K1 ≤ C1) (hLC2 : K2 ≤ C2)
    (hx : x.wf) (hy : y.wf) (hr1 : Rd w (.slice A1 K1 C1) x.b) (hr2 : Rd w (.slice A2 K2 C2) y.b) (hl1 : K1 = x.b.length) (hl2 : K2 = y.b.length) :
    Calls Try.prog 7 #[.agg #[.int .u8 (x.k : Int), .int .u8 (x.n : Int), .int .u32 (x.e : Int), .int .u32 (x.l : Int), .int .u32 (x.t : Int), .int .u32 (x.g : Int), .int .u32 (x.j : Int), .int .u32 (x.v : Int), .int .u8 (x.r : Int), .int .i64 x.c, .int .u32 (x.f : Int), .int .u32 (x.o : Int), .slice A1 K1 C1], .agg #[.int .u8 (y.n : Int), .int .u32 (y.e : Int), .int .u32 (y.l : Int), .int .u32 (y.s : Int), .int .u32 (y.a : Int), .bool y.p, .slice A2 K2 C2], .int .u16 (q1 : Int), .int .u32 (q2 : Int)] w fun e w' => e = .returned (.bool true) ∧ Below w.heap.size w w' := by
  have HX := hid hx
  have HY := hid hy
  have HR1 := hid hr1
  have HR2 := hid hr2
  have HL1 := hid hl1
  have HL2 := hid hl2
  clear hx hy hr1 hr2 hl1 hl2
  go_enter Try.func7, Try.ntmps7
  go_wp2_with fail
  refine (awake4_any _).mono ?_
  rintro e wa ⟨rfl, hba⟩
  have hsa := hba.size
  simp at hsa
  have HXa := hid ((hba.block w.heap.size (by simp; omega)).trans ((Below.heap_alloc (w.alloc (.cells #[.int .u8 (x.k : Int), .int .u8 (x.n : Int), .int .u32 (x.e : Int), .int .u32 (x.l : Int), .int .u32 (x.t : Int), .int .u32 (x.g : Int), .int .u32 (x.j : Int), .int .u32 (x.v : Int), .int .u8 (x.r : Int), .int .i64 x.c, .int .u32 (x.f : Int), .int .u32 (x.o : Int), .slice A1 K1 C1] 25)) (.cells #[.int .u8 (y.n : Int), .int .u32 (y.e : Int), .int .u32 (y.l : Int), .int .u32 (y.s : Int), .int .u32 (y.a : Int), .bool y.p, .slice A2 K2 C2] 38) w.heap.size (by simp)).trans (heap_alloc_new w (.cells #[.int .u8 (x.k : Int), .int .u8 (x.n : Int), .int .u32 (x.e : Int), .int .u32 (x.l : Int), .int .u32 (x.t : Int), .int .u32 (x.g : Int), .int .u32 (x.j : Int), .int .u32 (x.v : Int), .int .u8 (x.r : Int), .int .i64 x.c, .int .u32 (x.f : Int), .int .u32 (x.o : Int), .slice A1 K1 C1] 25))))
  have HYa := hid ((hba.block (w.heap.size + 1) (by simp)).trans (heap_new1 w (.cells #[.int .u8 (x.k : Int), .int .u8 (x.n : Int), .int .u32 (x.e : Int), .int .u32 (x.l : Int), .int .u32 (x.t : Int), .int .u32 (x.g : Int), .int .u32 (x.j : Int), .int .u32 (x.v : Int), .int .u8 (x.r : Int), .int .i64 x.c, .int .u32 (x.f : Int), .int .u32 (x.o : Int), .slice A1 K1 C1] 25) (.cells #[.int .u8 (y.n : Int), .int .u32 (y.e : Int), .int .u32 (y.l : Int), .int .u32 (y.s : Int), .int .u32 (y.a : Int), .bool y.p, .slice A2 K2 C2] 38)))
  have HBa := hid (((((Below.refl w.heap.size w).alloc (Nat.le_refl _) _).alloc (by simp) _)).trans (hba.mono (by simp; omega)))
  clear hba
  have hc12 : wa.cell? ⟨w.heap.size, 12, none⟩ = some (.slice A1 K1 C1) := (cell_of_row _ _ _ _ _ _ HXa.out).trans rfl
  have hf12 : wa.frozen? ⟨w.heap.size, 12, none⟩ = false := frozen_of_row _ _ _ _ _ HXa.out
  have hc6 : wa.cell? ⟨w.heap.size + 1, 6, none⟩ = some (.slice A2 K2 C2) := (cell_of_row _ _ _ _ _ _ HYa.out).trans rfl
  have hf6 : wa.frozen? ⟨w.heap.size + 1, 6, none⟩ = false := frozen_of_row _ _ _ _ _ HYa.out
  go_upto_region 3 with (fail)
  go_cut [8] from 19 to 34 (fun r wx => r = .bool false ∧ wx = ((wa.setCell ⟨w.heap.size, 12, none⟩ (.slice A1 K1 C1)).setCell ⟨w.heap.size + 1, 6, none⟩ (.slice A2 K2 C2)).drew)
  case first =>
    go_region
    all_goals (go_wp2_with fail; go_meet; exact ⟨rfl, rfl⟩)
  case rest =>
    obtain ⟨rfl, hwc⟩ := hcut
    have HXb := hid (show wc.heap[w.heap.size]? = some (.cells #[.int .u8 (x.k : Int), .int .u8 (x.n : Int), .int .u32 (x.e : Int), .int .u32 (x.l : Int), .int .u32 (x.t : Int), .int .u32 (x.g : Int), .int .u32 (x.j : Int), .int .u32 (x.v : Int), .int .u8 (x.r : Int), .int .i64 x.c, .int .u32 (x.f : Int), .int .u32 (x.o : Int), .slice A1 K1 C1] 25 (0, 0)) by rw [hwc]; exact (heap_setCell_other _ _ _ _ (by simp)).trans (heap_setCell_same _ _ _ _ _ _ HXa.out))
    have HYb := hid (show wc.heap[w.heap.size + 1]? = some (.cells #[.int .u8 (y.n : Int), .int .u32 (y.e : Int), .int .u32 (y.l : Int), .int .u32 (y.s : Int), .int .u32 (y.a : Int), .bool y.p, .slice A2 K2 C2] 38 (0, 0)) by rw [hwc]; exact heap_setCell_same _ _ _ _ _ _ ((heap_setCell_other _ _ _ _ (by simp)).trans HYa.out))
    have HBb := hid (show Below w.heap.size w wc by rw [hwc]; exact below_behind1 ((HBa.out.setCell (by simp) _).setCell (by simp) _))
    have hsb : w.heap.size + 2 ≤ wc.heap.size := by rw [hwc]; simpa using hsa
    clear hwc hc12 hf12 hc6 hf6
    go_wp2_with fail
    go_loopw [35] (fun i wr => ∃ z : Int, 0 ≤ z ∧ z ≤ 2 ∧ i = .int .i64 z ∧ wr.heap[w.heap.size]? = some (.cells #[.int .u8 (x.k : Int), .int .u8 (x.n : Int), .int .u32 (x.e : Int), .int .u32 (x.l : Int), .int .u32 (x.t : Int), .int .u32 (x.g : Int), .int .u32 (x.j : Int), .int .u32 (x.v : Int), .int .u8 (x.r : Int), .int .i64 x.c, .int .u32 (x.f : Int), .int .u32 (x.o : Int), .slice A1 K1 C1] 25 (0, 0)) ∧ wr.heap[w.heap.size + 1]? = some (.cells #[.int .u8 (y.n : Int), .int .u32 (y.e : Int), .int .u32 (y.l : Int), .int .u32 (y.s : Int), .int .u32 (y.a : Int), .bool y.p, .slice A2 K2 C2] 38 (0, 0)) ∧ Below w.heap.size w wr ∧ w.heap.size + 2 ≤ wr.heap.size) (fun i _ => (2 - intOf i).toNat)
    case atStart => exact ⟨0, by omega, by omega, rfl, HXb.out, HYb.out, HBb.out, hsb⟩
    case round =>
      obtain ⟨z, hz1, hz2, rfl, hx0, hy0, hbw, hsw⟩ := hrel
      have HX0 := hid hx0
      have HY0 := hid hy0
      have HB0 := hid hbw
      clear hx0 hy0 hbw
      by_cases h0 : z = 0
      · subst h0
        by_cases hxr : x.right = true
        · go_wp2_with (first | (refine load_st rfl 25 (.tmp 4) rfl w.heap.size rfl #[.int .u8 (x.k : Int), .int .u8 (x.n : Int), .int .u32 (x.e : Int), .int .u32 (x.l : Int), .int .u32 (x.t : Int), .int .u32 (x.g : Int), .int .u32 (x.j : Int), .int .u32 (x.v : Int), .int .u8 (x.r : Int), .int .i64 x.c, .int .u32 (x.f : Int), .int .u32 (x.o : Int), .slice A1 K1 C1] _ 13 HX0.out Try.underlying25 size_note rfl ?_) | fail)
          refine (refnote_yes x A1 C1 K1 HL1.out wr HX.out (HR1.out.below HB0.out) hxr).mono ?_
          rintro e w1 ⟨kv, rfl, hok, hb1⟩
          have HX1 := hid ((hb1.block w.heap.size (by omega)).trans HX0.out)
          have HY1 := hid ((hb1.block (w.heap.size + 1) (by omega)).trans HY0.out)
          have HB1 := hid (HB0.out.trans (hb1.mono (by omega)))
          have hs1 := hb1.size
          have HEL := hid (show x.enc.length ≤ 2048 from (x.enc_length hxr))
          obtain ⟨Lk, hLk⟩ : ∃ Lk, Lk = (Knot.knot x.enc).length := ⟨_, rfl⟩
          have hLk6 : 6 ≤ Lk ∧ Lk ≤ 2054 := by rw [hLk, Knot.knot_length]; have := HEL.out; omega
          have hrk := hok.rd
          obtain ⟨ad, cp, rfl⟩ : ∃ ad cp, kv = .slice ad Lk cp := by
            obtain ⟨ad, cp, e, _⟩ := hrk
            exact ⟨ad, cp, by rw [e, hLk]⟩
          have HLK := hid hLk
          have HRK := hid hrk
          obtain ⟨m, hm⟩ : ∃ m, m = q1 % (8 * Lk) := ⟨_, rfl⟩
          have hmk := hid (show m < 8 * Lk by rw [hm]; exact Nat.mod_lt _ (by omega))
          have hme := hid (show (q1 : Int) % (8 * (Lk : Int)) = (m : Int) by rw [hm]; simp)
          have hm9 : m ≤ q1 := by rw [hm]; exact Nat.mod_le _ _
          clear hm hLk hok hrk hb1
          go_wp2_with fail
          refine (turn_at _ (Knot.knot x.enc) m pat _ _ _ (by rw [← hme.out]) HPE.out HRK.out (by rw [← HLK.out]; omega) (by rw [← HLK.out]; omega) (by omega)).mono ?_
          rintro e w4 ⟨tv, t', rfl, hown4, hlen, hbits, hb4⟩
          have HNE := hid (Knot.uerr_burst x.enc t' HEL.out hlen m pat HP0.out (by rw [← HLK.out]; exact hmk.out) hbits)
          have HTL := hid (show t'.length ≤ 100000 by rw [hlen, ← HLK.out]; omega)
          have HT4 := hid hown4.rd
          have HX4 := hid ((hb4.block w.heap.size (by omega)).trans HX1.out)
          have HY4 := hid ((hb4.block (w.heap.size + 1) (by omega)).trans HY1.out)
          have HB4 := hid (HB1.out.trans (hb4.mono (by omega)))
          have hs4 := hb4.size
          clear hlen hbits hown4 hb4
          go_wp2_with fail
          refine (readnote_any tv t' w4 HT4.out HTL.out).mono ?_
          rintro e w5 ⟨u, bv, ec, rfl, hans, _, hob, hb5⟩
          have HEC := hid (ans_bad HNE.out hans)
          obtain ⟨a5, c5, hbv, _⟩ := hob.rd
          subst hbv
          have HT5 := hid (HT4.out.below hb5)
          have HX5 := hid ((hb5.block w.heap.size (by omega)).trans HX4.out)
          have HY5 := hid ((hb5.block (w.heap.size + 1) (by omega)).trans HY4.out)
          have HB5 := hid (HB4.out.trans (hb5.mono (by omega)))
          have hs5 := hb5.size
          clear hans hob hb5
          have HS5 := hid (heap_alloc_new w5 (.cells #[.int .u8 0, .int .u8 0, .int .u32 0, .int .u32 0, .int .u32 0, .int .u32 0, .int .u32 0, .int .u32 0, .int .u8 0, .int .i64 0, .int .u32 0, .int .u32 0, .slice none 0 0] 25))
          obtain ⟨w6, hw6⟩ : ∃ w6, w6 = (w5.alloc (.cells #[.int .u8 0, .int .u8 0, .int .u32 0, .int .u32 0, .int .u32 0, .int .u32 0, .int .u32 0, .int .u32 0, .int .u8 0, .int .i64 0, .int .u32 0, .int .u32 0, .slice none 0 0] 25)).setRow w5.heap.size #[.int .u8 (u.k : Int), .int .u8 (u.n : Int), .int .u32 (u.e : Int), .int .u32 (u.l : Int), .int .u32 (u.t : Int), .int .u32 (u.g : Int), .int .u32 (u.j : Int), .int .u32 (u.v : Int), .int .u8 (u.r : Int), .int .i64 u.c, .int .u32 (u.f : Int), .int .u32 (u.o : Int), .slice a5 u.b.length c5] := ⟨_, rfl⟩
          have h56 : Below w5.heap.size w5 w6 := by rw [hw6]; exact ((Below.refl _ _).alloc (Nat.le_refl _) _).trans (setRow_below _ (Nat.le_refl _))
          have HW6 := hid hw6
          have HT6 := hid (HT5.out.below h56)
          have HX6 := hid ((h56.block w.heap.size (by omega)).trans HX5.out)
          have HY6 := hid ((h56.block (w.heap.size + 1) (by omega)).trans HY5.out)
          have HB6 := hid (HB5.out.trans (h56.mono (by omega)))
          have hs6 := h56.size
          clear hw6 h56
          go_wp2_with (first | (refine store_st rfl 25 (.tmp 13) (.tmp 65) rfl w5.heap.size #[.int .u8 (u.k : Int), .int .u8 (u.n : Int), .int .u32 (u.e : Int), .int .u32 (u.l : Int), .int .u32 (u.t : Int), .int .u32 (u.g : Int), .int .u32 (u.j : Int), .int .u32 (u.v : Int), .int .u8 (u.r : Int), .int .i64 u.c, .int .u32 (u.f : Int), .int .u32 (u.o : Int), .slice a5 u.b.length c5] rfl rfl #[.int .u8 0, .int .u8 0, .int .u32 0, .int .u32 0, .int .u32 0, .int .u32 0, .int .u32 0, .int .u32 0, .int .u8 0, .int .i64 0, .int .u32 0, .int .u32 0, .slice none 0 0] 13 HS5.out size_note rfl rfl (by simp [Value.oneCell']) ?_) | fail)
          rw [← HW6.out]
          refine (readpacket_any tv t' w6 HT6.out HTL.out).mono ?_
          rintro e w7 ⟨v, bw, fc, rfl, hans, _, hob, hb7⟩
          have HFC := hid (ans_bad HNE.out hans)
          obtain ⟨a7, c7, hbv, _⟩ := hob.rd
          subst hbv
          have HX7 := hid ((hb7.block w.heap.size (by omega)).trans HX6.out)
          have HY7 := hid ((hb7.block (w.heap.size + 1) (by omega)).trans HY6.out)
          have HB7 := hid (HB6.out.trans (hb7.mono (by omega)))
          have hs7 := hb7.size
          clear hans hob hb7
          have HS7 := hid (heap_alloc_new w7 (.cells #[.int .u8 0, .int .u32 0, .int .u32 0, .int .u32 0, .int .u32 0, .bool false, .slice none 0 0] 38))
          have h78 : Below w7.heap.size w7 ((w7.alloc (.cells #[.int .u8 0, .int .u32 0, .int .u32 0, .int .u32 0, .int .u32 0, .bool false, .slice none 0 0] 38)).setRow w7.heap.size #[.int .u8 (v.n : Int), .int .u32 (v.e : Int), .int .u32 (v.l : Int), .int .u32 (v.s : Int), .int .u32 (v.a : Int), .bool v.p, .slice a7 v.b.length c7]) := ((Below.refl _ _).alloc (Nat.le_refl _) _).trans (setRow_below _ (Nat.le_refl _))
          have HX8 := hid ((h78.block w.heap.size (by omega)).trans HX7.out)
          have HY8 := hid ((h78.block (w.heap.size + 1) (by omega)).trans HY7.out)
          have HB8 := hid (HB7.out.trans (h78.mono (by omega)))
          have hs8 := h78.size
          clear h78
          have hec := HEC.out
          have hfc := HFC.out
          go_wp2_with (first | (refine store_st rfl 38 (.tmp 15) (.tmp 70) rfl w7.heap.size #[.int .u8 (v.n : Int), .int .u32 (v.e : Int), .int .u32 (v.l : Int), .int .u32 (v.s : Int), .int .u32 (v.a : Int), .bool v.p, .slice a7 v.b.length c7] rfl rfl #[.int .u8 0, .int .u32 0, .int .u32 0, .int .u32 0, .int .u32 0, .bool false, .slice none 0 0] 7 HS7.out size_packet rfl rfl (by simp [Value.oneCell']) ?_) | fail)
          go_roundw
          case rel => exact ⟨1, by omega, by omega, rfl, HX8.out, HY8.out, HB8.out, by omega⟩
          case measure => simp [intOf]
        · have hxr2 : x.right = false := by simpa using hxr
          go_wp2_with (first | (refine load_st rfl 25 (.tmp 4) rfl w.heap.size rfl #[.int .u8 (x.k : Int), .int .u8 (x.n : Int), .int .u32 (x.e : Int), .int .u32 (x.l : Int), .int .u32 (x.t : Int), .int .u32 (x.g : Int), .int .u32 (x.j : Int), .int .u32 (x.v : Int), .int .u8 (x.r : Int), .int .i64 x.c, .int .u32 (x.f : Int), .int .u32 (x.o : Int), .slice A1 K1 C1] _ 13 HX0.out Try.underlying25 size_note rfl ?_) | fail)
          refine (refnote_no x A1 C1 K1 HL1.out wr HX.out hxr2).mono ?_
          rintro e w1 ⟨rfl, hb1⟩
          have HX1 := hid ((hb1.block w.heap.size (by omega)).trans HX0.out)
          have HY1 := hid ((hb1.block (w.heap.size + 1) (by omega)).trans HY0.out)
          have HB1 := hid (HB0.out.trans (hb1.mono (by omega)))
          have hs1 := hb1.size
          go_wp2_with fail
          go_roundw
          case rel => exact ⟨1, by omega, by omega, rfl, HX1.out, HY1.out, HB1.out, by omega⟩
          case measure => simp [intOf]
      · by_cases h1 : z = 1
        · subst h1
          by_cases hxr : x.right = true
          · go_wp2_with (first | (refine load_st rfl 25 (.tmp 4) rfl w.heap.size rfl #[.int .u8 (x.k : Int), .int .u8 (x.n : Int), .int .u32 (x.e : Int), .int .u32 (x.l : Int), .int .u32 (x.t : Int), .int .u32 (x.g : Int), .int .u32 (x.j : Int), .int .u32 (x.v : Int), .int .u8 (x.r : Int), .int .i64 x.c, .int .u32 (x.f : Int), .int .u32 (x.o : Int), .slice A1 K1 C1] _ 13 HX0.out Try.underlying25 size_note rfl ?_) | fail)
            refine (refnote_yes x A1 C1 K1 HL1.out wr HX.out (HR1.out.below HB0.out) hxr).mono ?_
            rintro e w1 ⟨kv0, rfl, _, hb1⟩
            have HX1 := hid ((hb1.block w.heap.size (by omega)).trans HX0.out)
            have HY1 := hid ((hb1.block (w.heap.size + 1) (by omega)).trans HY0.out)
            have HB1 := hid (HB0.out.trans (hb1.mono (by omega)))
            have hs1 := hb1.size
            have HX2 := hid HX1.out
            have HY2 := hid HY1.out
            have HB2 := hid HB1.out
            have hs2 : w.heap.size + 2 ≤ w1.heap.size := by omega
            clear hb1
            by_cases hyr : y.right = true
            · go_wp2_with (first | (refine load_st rfl 38 (.tmp 5) rfl (w.heap.size + 1) rfl #[.int .u8 (y.n : Int), .int .u32 (y.e : Int), .int .u32 (y.l : Int), .int .u32 (y.s : Int), .int .u32 (y.a : Int), .bool y.p, .slice A2 K2 C2] _ 7 HY1.out Try.underlying38 size_packet rfl ?_) | fail)
              refine (refpacket_yes y A2 C2 K2 HL2.out w1 HY.out (HR2.out.below HB2.out) hyr).mono ?_
              clear HX1 HY1 HB1
              rintro e w2 ⟨kv, rfl, hok, hb1⟩
              have HX1 := hid ((hb1.block w.heap.size (by omega)).trans HX2.out)
              have HY1 := hid ((hb1.block (w.heap.size + 1) (by omega)).trans HY2.out)
              have HB1 := hid (HB2.out.trans (hb1.mono (by omega)))
              have hs3 := hb1.size
              have HEL := hid (show y.enc.length ≤ 2048 from (y.enc_length HY.out hyr))
              obtain ⟨Lk, hLk⟩ : ∃ Lk, Lk = (Knot.knot y.enc).length := ⟨_, rfl⟩
              have hLk6 : 6 ≤ Lk ∧ Lk ≤ 2054 := by rw [hLk, Knot.knot_length]; have := HEL.out; omega
              have hrk := hok.rd
              obtain ⟨ad, cp, rfl⟩ : ∃ ad cp, kv = .slice ad Lk cp := by
                obtain ⟨ad, cp, e, _⟩ := hrk
                exact ⟨ad, cp, by rw [e, hLk]⟩
              have HLK := hid hLk
              have HRK := hid hrk
              obtain ⟨m, hm⟩ : ∃ m, m = q1 % (8 * Lk) := ⟨_, rfl⟩
              have hmk := hid (show m < 8 * Lk by rw [hm]; exact Nat.mod_lt _ (by omega))
              have hme := hid (show (q1 : Int) % (8 * (Lk : Int)) = (m : Int) by rw [hm]; simp)
              have hm9 : m ≤ q1 := by rw [hm]; exact Nat.mod_le _ _
              clear hm hLk hok hrk hb1
              go_wp2_with fail
              refine (turn_at _ (Knot.knot y.enc) m pat _ _ _ (by rw [← hme.out]) HPE.out HRK.out (by rw [← HLK.out]; omega) (by rw [← HLK.out]; omega) (by omega)).mono ?_
              rintro e w4 ⟨tv, t', rfl, hown4, hlen, hbits, hb4⟩
              have HNE := hid (Knot.uerr_burst y.enc t' HEL.out hlen m pat HP0.out (by rw [← HLK.out]; exact hmk.out) hbits)
              have HTL := hid (show t'.length ≤ 100000 by rw [hlen, ← HLK.out]; omega)
              have HT4 := hid hown4.rd
              have HX4 := hid ((hb4.block w.heap.size (by omega)).trans HX1.out)
              have HY4 := hid ((hb4.block (w.heap.size + 1) (by omega)).trans HY1.out)
              have HB4 := hid (HB1.out.trans (hb4.mono (by omega)))
              have hs4 := hb4.size
              clear hlen hbits hown4 hb4
              go_wp2_with fail
              refine (readnote_any tv t' w4 HT4.out HTL.out).mono ?_
              rintro e w5 ⟨u, bv, ec, rfl, hans, _, hob, hb5⟩
              have HEC := hid (ans_bad HNE.out hans)
              obtain ⟨a5, c5, hbv, _⟩ := hob.rd
              subst hbv
              have HT5 := hid (HT4.out.below hb5)
              have HX5 := hid ((hb5.block w.heap.size (by omega)).trans HX4.out)
              have HY5 := hid ((hb5.block (w.heap.size + 1) (by omega)).trans HY4.out)
              have HB5 := hid (HB4.out.trans (hb5.mono (by omega)))
              have hs5 := hb5.size
              clear hans hob hb5
              have HS5 := hid (heap_alloc_new w5 (.cells #[.int .u8 0, .int .u8 0, .int .u32 0, .int .u32 0, .int .u32 0, .int .u32 0, .int .u32 0, .int .u32 0, .int .u8 0, .int .i64 0, .int .u32 0, .int .u32 0, .slice none 0 0] 25))
              obtain ⟨w6, hw6⟩ : ∃ w6, w6 = (w5.alloc (.cells #[.int .u8 0, .int .u8 0, .int .u32 0, .int .u32 0, .int .u32 0, .int .u32 0, .int .u32 0, .int .u32 0, .int .u8 0, .int .i64 0, .int .u32 0, .int .u32 0, .slice none 0 0] 25)).setRow w5.heap.size #[.int .u8 (u.k : Int), .int .u8 (u.n : Int), .int .u32 (u.e : Int), .int .u32 (u.l : Int), .int .u32 (u.t : Int), .int .u32 (u.g : Int), .int .u32 (u.j : Int), .int .u32 (u.v : Int), .int .u8 (u.r : Int), .int .i64 u.c, .int .u32 (u.f : Int), .int .u32 (u.o : Int), .slice a5 u.b.length c5] := ⟨_, rfl⟩
              have h56 : Below w5.heap.size w5 w6 := by rw [hw6]; exact ((Below.refl _ _).alloc (Nat.le_refl _) _).trans (setRow_below _ (Nat.le_refl _))
              have HW6 := hid hw6
              have HT6 := hid (HT5.out.below h56)
              have HX6 := hid ((h56.block w.heap.size (by omega)).trans HX5.out)
              have HY6 := hid ((h56.block (w.heap.size + 1) (by omega)).trans HY5.out)
              have HB6 := hid (HB5.out.trans (h56.mono (by omega)))
              have hs6 := h56.size
              clear hw6 h56
              go_wp2_with (first | (refine store_st rfl 25 (.tmp 13) (.tmp 65) rfl w5.heap.size #[.int .u8 (u.k : Int), .int .u8 (u.n : Int), .int .u32 (u.e : Int), .int .u32 (u.l : Int), .int .u32 (u.t : Int), .int .u32 (u.g : Int), .int .u32 (u.j : Int), .int .u32 (u.v : Int), .int .u8 (u.r : Int), .int .i64 u.c, .int .u32 (u.f : Int), .int .u32 (u.o : Int), .slice a5 u.b.length c5] rfl rfl #[.int .u8 0, .int .u8 0, .int .u32 0, .int .u32 0, .int .u32 0, .int .u32 0, .int .u32 0, .int .u32 0, .int .u8 0, .int .i64 0, .int .u32 0, .int .u32 0, .slice none 0 0] 13 HS5.out size_note rfl rfl (by simp [Value.oneCell']) ?_) | fail)
              rw [← HW6.out]
              refine (readpacket_any tv t' w6 HT6.out HTL.out).mono ?_
              rintro e w7 ⟨v, bw, fc, rfl, hans, _, hob, hb7⟩
              have HFC := hid (ans_bad HNE.out hans)
              obtain ⟨a7, c7, hbv, _⟩ := hob.rd
              subst hbv
              have HX7 := hid ((hb7.block w.heap.size (by omega)).trans HX6.out)
              have HY7 := hid ((hb7.block (w.heap.size + 1) (by omega)).trans HY6.out)
              have HB7 := hid (HB6.out.trans (hb7.mono (by omega)))
              have hs7 := hb7.size
              clear hans hob hb7
              have HS7 := hid (heap_alloc_new w7 (.cells #[.int .u8 0, .int .u32 0, .int .u32 0, .int .u32 0, .int .u32 0, .bool false, .slice none 0 0] 38))
              have h78 : Below w7.heap.size w7 ((w7.alloc (.cells #[.int .u8 0, .int .u32 0, .int .u32 0, .int .u32 0, .int .u32 0, .bool false, .slice none 0 0] 38)).setRow w7.heap.size #[.int .u8 (v.n : Int), .int .u32 (v.e : Int), .int .u32 (v.l : Int), .int .u32 (v.s : Int), .int .u32 (v.a : Int), .bool v.p, .slice a7 v.b.length c7]) := ((Below.refl _ _).alloc (Nat.le_refl _) _).trans (setRow_below _ (Nat.le_refl _))
              have HX8 := hid ((h78.block w.heap.size (by omega)).trans HX7.out)
              have HY8 := hid ((h78.block (w.heap.size + 1) (by omega)).trans HY7.out)
              have HB8 := hid (HB7.out.trans (h78.mono (by omega)))
              have hs8 := h78.size
              clear h78
              have hec := HEC.out
              have hfc := HFC.out
              go_wp2_with (first | (refine store_st rfl 38 (.tmp 15) (.tmp 70) rfl w7.heap.size #[.int .u8 (v.n : Int), .int .u32 (v.e : Int), .int .u32 (v.l : Int), .int .u32 (v.s : Int), .int .u32 (v.a : Int), .bool v.p, .slice a7 v.b.length c7] rfl rfl #[.int .u8 0, .int .u32 0, .int .u32 0, .int .u32 0, .int .u32 0, .bool false, .slice none 0 0] 7 HS7.out size_packet rfl rfl (by simp [Value.oneCell']) ?_) | fail)
              go_roundw
              case rel => exact ⟨2, by omega, by omega, rfl, HX8.out, HY8.out, HB8.out, by omega⟩
              case measure => simp [intOf]
            · have hyr2 : y.right = false := by simpa using hyr
              go_wp2_with (first | (refine load_st rfl 38 (.tmp 5) rfl (w.heap.size + 1) rfl #[.int .u8 (y.n : Int), .int .u32 (y.e : Int), .int .u32 (y.l : Int), .int .u32 (y.s : Int), .int .u32 (y.a : Int), .bool y.p, .slice A2 K2 C2] _ 7 HY1.out Try.underlying38 size_packet rfl ?_) | fail)
              refine (refpacket_no y A2 C2 K2 HL2.out w1 hyr2).mono ?_
              clear HX1 HY1 HB1
              rintro e w2 ⟨rfl, hb1⟩
              have HX1 := hid ((hb1.block w.heap.size (by omega)).trans HX2.out)
              have HY1 := hid ((hb1.block (w.heap.size + 1) (by omega)).trans HY2.out)
              have HB1 := hid (HB2.out.trans (hb1.mono (by omega)))
              have hs3 := hb1.size
              go_wp2_with fail
              go_roundw
              case rel => exact ⟨2, by omega, by omega, rfl, HX1.out, HY1.out, HB1.out, by omega⟩
              case measure => simp [intOf]
          · have hxr2 : x.right = false := by simpa using hxr
            go_wp2_with (first | (refine load_st rfl 25 (.tmp 4) rfl w.heap.size rfl #[.int .u8 (x.k : Int), .int .u8 (x.n : Int), .int .u32 (x.e : Int), .int .u32 (x.l : Int), .int .u32 (x.t : Int), .int .u32 (x.g : Int), .int .u32 (x.j : Int), .int .u32 (x.v : Int), .int .u8 (x.r : Int), .int .i64 x.c, .int .u32 (x.f : Int), .int .u32 (x.o : Int), .slice A1 K1 C1] _ 13 HX0.out Try.underlying25 size_note rfl ?_) | fail)
            refine (refnote_no x A1 C1 K1 HL1.out wr HX.out hxr2).mono ?_
            rintro e w1 ⟨rfl, hb1⟩
            have HX1 := hid ((hb1.block w.heap.size (by omega)).trans HX0.out)
            have HY1 := hid ((hb1.block (w.heap.size + 1) (by omega)).trans HY0.out)
            have HB1 := hid (HB0.out.trans (hb1.mono (by omega)))
            have hs1 := hb1.size
            have HX2 := hid HX1.out
            have HY2 := hid HY1.out
            have HB2 := hid HB1.out
            have hs2 : w.heap.size + 2 ≤ w1.heap.size := by omega
            clear hb1
            by_cases hyr : y.right = true
            · go_wp2_with (first | (refine load_st rfl 38 (.tmp 5) rfl (w.heap.size + 1) rfl #[.int .u8 (y.n : Int), .int .u32 (y.e : Int), .int .u32 (y.l : Int), .int .u32 (y.s : Int), .int .u32 (y.a : Int), .bool y.p, .slice A2 K2 C2] _ 7 HY1.out Try.underlying38 size_packet rfl ?_) | fail)
              refine (refpacket_yes y A2 C2 K2 HL2.out w1 HY.out (HR2.out.below HB2.out) hyr).mono ?_
              clear HX1 HY1 HB1
              rintro e w2 ⟨kv, rfl, hok, hb1⟩
              have HX1 := hid ((hb1.block w.heap.size (by omega)).trans HX2.out)
              have HY1 := hid ((hb1.block (w.heap.size + 1) (by omega)).trans HY2.out)
              have HB1 := hid (HB2.out.trans (hb1.mono (by omega)))
              have hs3 := hb1.size
              have HEL := hid (show y.enc.length ≤ 2048 from (y.enc_length HY.out hyr))
              obtain ⟨Lk, hLk⟩ : ∃ Lk, Lk = (Knot.knot y.enc).length := ⟨_, rfl⟩
              have hLk6 : 6 ≤ Lk ∧ Lk ≤ 2054 := by rw [hLk, Knot.knot_length]; have := HEL.out; omega
              have hrk := hok.rd
              obtain ⟨ad, cp, rfl⟩ : ∃ ad cp, kv = .slice ad Lk cp := by
                obtain ⟨ad, cp, e, _⟩ := hrk
                exact ⟨ad, cp, by rw [e, hLk]⟩
              have HLK := hid hLk
              have HRK := hid hrk
              obtain ⟨m, hm⟩ : ∃ m, m = q1 % (8 * Lk) := ⟨_, rfl⟩
              have hmk := hid (show m < 8 * Lk by rw [hm]; exact Nat.mod_lt _ (by omega))
              have hme := hid (show (q1 : Int) % (8 * (Lk : Int)) = (m : Int) by rw [hm]; simp)
              have hm9 : m ≤ q1 := by rw [hm]; exact Nat.mod_le _ _
              clear hm hLk hok hrk hb1
              go_wp2_with fail
              refine (turn_at _ (Knot.knot y.enc) m pat _ _ _ (by rw [← hme.out]) HPE.out HRK.out (by rw [← HLK.out]; omega) (by rw [← HLK.out]; omega) (by omega)).mono ?_
              rintro e w4 ⟨tv, t', rfl, hown4, hlen, hbits, hb4⟩
              have HNE := hid (Knot.uerr_burst y.enc t' HEL.out hlen m pat HP0.out (by rw [← HLK.out]; exact hmk.out) hbits)
              have HTL := hid (show t'.length ≤ 100000 by rw [hlen, ← HLK.out]; omega)
              have HT4 := hid hown4.rd
              have HX4 := hid ((hb4.block w.heap.size (by omega)).trans HX1.out)
              have HY4 := hid ((hb4.block (w.heap.size + 1) (by omega)).trans HY1.out)
              have HB4 := hid (HB1.out.trans (hb4.mono (by omega)))
              have hs4 := hb4.size
              clear hlen hbits hown4 hb4
              go_wp2_with fail
              refine (readnote_any tv t' w4 HT4.out HTL.out).mono ?_
              rintro e w5 ⟨u, bv, ec, rfl, hans, _, hob, hb5⟩
              have HEC := hid (ans_bad HNE.out hans)
              obtain ⟨a5, c5, hbv, _⟩ := hob.rd
              subst hbv
              have HT5 := hid (HT4.out.below hb5)
              have HX5 := hid ((hb5.block w.heap.size (by omega)).trans HX4.out)
              have HY5 := hid ((hb5.block (w.heap.size + 1) (by omega)).trans HY4.out)
              have HB5 := hid (HB4.out.trans (hb5.mono (by omega)))
              have hs5 := hb5.size
              clear hans hob hb5
              have HS5 := hid (heap_alloc_new w5 (.cells #[.int .u8 0, .int .u8 0, .int .u32 0, .int .u32 0, .int .u32 0, .int .u32 0, .int .u32 0, .int .u32 0, .int .u8 0, .int .i64 0, .int .u32 0, .int .u32 0, .slice none 0 0] 25))
              obtain ⟨w6, hw6⟩ : ∃ w6, w6 = (w5.alloc (.cells #[.int .u8 0, .int .u8 0, .int .u32 0, .int .u32 0, .int .u32 0, .int .u32 0, .int .u32 0, .int .u32 0, .int .u8 0, .int .i64 0, .int .u32 0, .int .u32 0, .slice none 0 0] 25)).setRow w5.heap.size #[.int .u8 (u.k : Int), .int .u8 (u.n : Int), .int .u32 (u.e : Int), .int .u32 (u.l : Int), .int .u32 (u.t : Int), .int .u32 (u.g : Int), .int .u32 (u.j : Int), .int .u32 (u.v : Int), .int .u8 (u.r : Int), .int .i64 u.c, .int .u32 (u.f : Int), .int .u32 (u.o : Int), .slice a5 u.b.length c5] := ⟨_, rfl⟩
              have h56 : Below w5.heap.size w5 w6 := by rw [hw6]; exact ((Below.refl _ _).alloc (Nat.le_refl _) _).trans (setRow_below _ (Nat.le_refl _))
              have HW6 := hid hw6
              have HT6 := hid (HT5.out.below h56)
              have HX6 := hid ((h56.block w.heap.size (by omega)).trans HX5.out)
              have HY6 := hid ((h56.block (w.heap.size + 1) (by omega)).trans HY5.out)
              have HB6 := hid (HB5.out.trans (h56.mono (by omega)))
              have hs6 := h56.size
              clear hw6 h56
              go_wp2_with (first | (refine store_st rfl 25 (.tmp 13) (.tmp 65) rfl w5.heap.size #[.int .u8 (u.k : Int), .int .u8 (u.n : Int), .int .u32 (u.e : Int), .int .u32 (u.l : Int), .int .u32 (u.t : Int), .int .u32 (u.g : Int), .int .u32 (u.j : Int), .int .u32 (u.v : Int), .int .u8 (u.r : Int), .int .i64 u.c, .int .u32 (u.f : Int), .int .u32 (u.o : Int), .slice a5 u.b.length c5] rfl rfl #[.int .u8 0, .int .u8 0, .int .u32 0, .int .u32 0, .int .u32 0, .int .u32 0, .int .u32 0, .int .u32 0, .int .u8 0, .int .i64 0, .int .u32 0, .int .u32 0, .slice none 0 0] 13 HS5.out size_note rfl rfl (by simp [Value.oneCell']) ?_) | fail)
              rw [← HW6.out]
              refine (readpacket_any tv t' w6 HT6.out HTL.out).mono ?_
              rintro e w7 ⟨v, bw, fc, rfl, hans, _, hob, hb7⟩
              have HFC := hid (ans_bad HNE.out hans)
              obtain ⟨a7, c7, hbv, _⟩ := hob.rd
              subst hbv
              have HX7 := hid ((hb7.block w.heap.size (by omega)).trans HX6.out)
              have HY7 := hid ((hb7.block (w.heap.size + 1) (by omega)).trans HY6.out)
              have HB7 := hid (HB6.out.trans (hb7.mono (by omega)))
              have hs7 := hb7.size
              clear hans hob hb7
              have HS7 := hid (heap_alloc_new w7 (.cells #[.int .u8 0, .int .u32 0, .int .u32 0, .int .u32 0, .int .u32 0, .bool false, .slice none 0 0] 38))
              have h78 : Below w7.heap.size w7 ((w7.alloc (.cells #[.int .u8 0, .int .u32 0, .int .u32 0, .int .u32 0, .int .u32 0, .bool false, .slice none 0 0] 38)).setRow w7.heap.size #[.int .u8 (v.n : Int), .int .u32 (v.e : Int), .int .u32 (v.l : Int), .int .u32 (v.s : Int), .int .u32 (v.a : Int), .bool v.p, .slice a7 v.b.length c7]) := ((Below.refl _ _).alloc (Nat.le_refl _) _).trans (setRow_below _ (Nat.le_refl _))
              have HX8 := hid ((h78.block w.heap.size (by omega)).trans HX7.out)
              have HY8 := hid ((h78.block (w.heap.size + 1) (by omega)).trans HY7.out)
              have HB8 := hid (HB7.out.trans (h78.mono (by omega)))
              have hs8 := h78.size
              clear h78
              have hec := HEC.out
              have hfc := HFC.out
              go_wp2_with (first | (refine store_st rfl 38 (.tmp 15) (.tmp 70) rfl w7.heap.size #[.int .u8 (v.n : Int), .int .u32 (v.e : Int), .int .u32 (v.l : Int), .int .u32 (v.s : Int), .int .u32 (v.a : Int), .bool v.p, .slice a7 v.b.length c7] rfl rfl #[.int .u8 0, .int .u32 0, .int .u32 0, .int .u32 0, .int .u32 0, .bool false, .slice none 0 0] 7 HS7.out size_packet rfl rfl (by simp [Value.oneCell']) ?_) | fail)
              go_roundw
              case rel => exact ⟨2, by omega, by omega, rfl, HX8.out, HY8.out, HB8.out, by omega⟩
              case measure => simp [intOf]
            · have hyr2 : y.right = false := by simpa using hyr
              go_wp2_with (first | (refine load_st rfl 38 (.tmp 5) rfl (w.heap.size + 1) rfl #[.int .u8 (y.n : Int), .int .u32 (y.e : Int), .int .u32 (y.l : Int), .int .u32 (y.s : Int), .int .u32 (y.a : Int), .bool y.p, .slice A2 K2 C2] _ 7 HY1.out Try.underlying38 size_packet rfl ?_) | fail)
              refine (refpacket_no y A2 C2 K2 HL2.out w1 hyr2).mono ?_
              clear HX1 HY1 HB1
              rintro e w2 ⟨rfl, hb1⟩
              have HX1 := hid ((hb1.block w.heap.size (by omega)).trans HX2.out)
              have HY1 := hid ((hb1.block (w.heap.size + 1) (by omega)).trans HY2.out)
              have HB1 := hid (HB2.out.trans (hb1.mono (by omega)))
              have hs3 := hb1.size
              go_wp2_with fail
              go_roundw
              case rel => exact ⟨2, by omega, by omega, rfl, HX1.out, HY1.out, HB1.out, by omega⟩
              case measure => simp [intOf]
        · obtain rfl : z = 2 := by omega
          go_wp2
          go_ret
          exact ⟨rfl, HB0.out⟩

set_option maxRecDepth 100000 in
set_option maxHeartbeats 8000000 in
theorem nb_sm (x : Note.N) (y : Note.P) (A1 A2 : Option Addr) (C1 C2 : Nat) (K1 : Nat) (hK1 : K1 ≤ 100) (L2 : Nat) (hn2 : 100 < L2) (q1 q2 : Nat) (pat : BitVec 32) (w : World) (hq1 : q1 < 65536) (hq2 : q2 < 4294967296) (HP0 : Hid (pat.getLsbD 0 = true)) (HPE : Hid (Go.bits .or .u32 (q2 : Int) 1 = (pat.toNat : Int))) (hC1 : C1 ≤ 9223372036854775807) (hC2 : C2 ≤ 9223372036854775807) (hLC1 : K1 ≤ C1) (hLC2 : L2 ≤ C2)
    (hx : x.wf) (hy : y.wf) (hr1 : Rd w (.slice A1 K1 C1) x.b) (hr2 : Rd w (.slice A2 100 C2) y.b) (hl1 : K1 = x.b.length) (hl2 : 100 = y.b.length) :
    Calls Try.prog 7 #[.agg #[.int .u8 (x.k : Int), .int .u8 (x.n : Int), .int .u32 (x.e : Int), .int .u32 (x.l : Int), .int .u32 (x.t : Int), .int .u32 (x.g : Int), .int .u32 (x.j : Int), .int .u32 (x.v : Int), .int .u8 (x.r : Int), .int .i64 x.c, .int .u32 (x.f : Int), .int .u32 (x.o : Int), .slice A1 K1 C1], .agg #[.int .u8 (y.n : Int), .int .u32 (y.e : Int), .int .u32 (y.l : Int), .int .u32 (y.s : Int), .int .u32 (y.a : Int), .bool y.p, .slice A2 L2 C2], .int .u16 (q1 : Int), .int .u32 (q2 : Int)] w fun e w' => e = .returned (.bool true) ∧ Below w.heap.size w w' := by
  have HX := hid hx
  have HY := hid hy
  have HR1 := hid hr1
  have HR2 := hid hr2
  have HL1 := hid hl1
  have HL2 := hid hl2
  clear hx hy hr1 hr2 hl1 hl2
  have g2 : (100 : Int) < (L2 : Int) := by omega
  go_enter Try.func7, Try.ntmps7
  go_wp2_with fail
  refine (awake4_any _).mono ?_
  rintro e wa ⟨rfl, hba⟩
  have hsa := hba.size
  simp at hsa
  have HXa := hid ((hba.block w.heap.size (by simp; omega)).trans ((Below.heap_alloc (w.alloc (.cells #[.int .u8 (x.k : Int), .int .u8 (x.n : Int), .int .u32 (x.e : Int), .int .u32 (x.l : Int), .int .u32 (x.t : Int), .int .u32 (x.g : Int), .int .u32 (x.j : Int), .int .u32 (x.v : Int), .int .u8 (x.r : Int), .int .i64 x.c, .int .u32 (x.f : Int), .int .u32 (x.o : Int), .slice A1 K1 C1] 25)) (.cells #[.int .u8 (y.n : Int), .int .u32 (y.e : Int), .int .u32 (y.l : Int), .int .u32 (y.s : Int), .int .u32 (y.a : Int), .bool y.p, .slice A2 L2 C2] 38) w.heap.size (by simp)).trans (heap_alloc_new w (.cells #[.int .u8 (x.k : Int), .int .u8 (x.n : Int), .int .u32 (x.e : Int), .int .u32 (x.l : Int), .int .u32 (x.t : Int), .int .u32 (x.g : Int), .int .u32 (x.j : Int), .int .u32 (x.v : Int), .int .u8 (x.r : Int), .int .i64 x.c, .int .u32 (x.f : Int), .int .u32 (x.o : Int), .slice A1 K1 C1] 25))))
  have HYa := hid ((hba.block (w.heap.size + 1) (by simp)).trans (heap_new1 w (.cells #[.int .u8 (x.k : Int), .int .u8 (x.n : Int), .int .u32 (x.e : Int), .int .u32 (x.l : Int), .int .u32 (x.t : Int), .int .u32 (x.g : Int), .int .u32 (x.j : Int), .int .u32 (x.v : Int), .int .u8 (x.r : Int), .int .i64 x.c, .int .u32 (x.f : Int), .int .u32 (x.o : Int), .slice A1 K1 C1] 25) (.cells #[.int .u8 (y.n : Int), .int .u32 (y.e : Int), .int .u32 (y.l : Int), .int .u32 (y.s : Int), .int .u32 (y.a : Int), .bool y.p, .slice A2 L2 C2] 38)))
  have HBa := hid (((((Below.refl w.heap.size w).alloc (Nat.le_refl _) _).alloc (by simp) _)).trans (hba.mono (by simp; omega)))
  clear hba
  have hc12 : wa.cell? ⟨w.heap.size, 12, none⟩ = some (.slice A1 K1 C1) := (cell_of_row _ _ _ _ _ _ HXa.out).trans rfl
  have hf12 : wa.frozen? ⟨w.heap.size, 12, none⟩ = false := frozen_of_row _ _ _ _ _ HXa.out
  have hc6 : wa.cell? ⟨w.heap.size + 1, 6, none⟩ = some (.slice A2 L2 C2) := (cell_of_row _ _ _ _ _ _ HYa.out).trans rfl
  have hf6 : wa.frozen? ⟨w.heap.size + 1, 6, none⟩ = false := frozen_of_row _ _ _ _ _ HYa.out
  go_upto_region 3 with (fail)
  go_cut [8] from 19 to 34 (fun r wx => r = .bool false ∧ wx = ((wa.setCell ⟨w.heap.size, 12, none⟩ (.slice A1 K1 C1)).setCell ⟨w.heap.size + 1, 6, none⟩ (.slice A2 100 C2)).drew)
  case first =>
    go_region
    all_goals (go_wp2_with fail; go_meet; exact ⟨rfl, rfl⟩)
  case rest =>
    obtain ⟨rfl, hwc⟩ := hcut
    have HXb := hid (show wc.heap[w.heap.size]? = some (.cells #[.int .u8 (x.k : Int), .int .u8 (x.n : Int), .int .u32 (x.e : Int), .int .u32 (x.l : Int), .int .u32 (x.t : Int), .int .u32 (x.g : Int), .int .u32 (x.j : Int), .int .u32 (x.v : Int), .int .u8 (x.r : Int), .int .i64 x.c, .int .u32 (x.f : Int), .int .u32 (x.o : Int), .slice A1 K1 C1] 25 (0, 0)) by rw [hwc]; exact (heap_setCell_other _ _ _ _ (by simp)).trans (heap_setCell_same _ _ _ _ _ _ HXa.out))
    have HYb := hid (show wc.heap[w.heap.size + 1]? = some (.cells #[.int .u8 (y.n : Int), .int .u32 (y.e : Int), .int .u32 (y.l : Int), .int .u32 (y.s : Int), .int .u32 (y.a : Int), .bool y.p, .slice A2 100 C2] 38 (0, 0)) by rw [hwc]; exact heap_setCell_same _ _ _ _ _ _ ((heap_setCell_other _ _ _ _ (by simp)).trans HYa.out))
    have HBb := hid (show Below w.heap.size w wc by rw [hwc]; exact below_behind1 ((HBa.out.setCell (by simp) _).setCell (by simp) _))
    have hsb : w.heap.size + 2 ≤ wc.heap.size := by rw [hwc]; simpa using hsa
    clear hwc hc12 hf12 hc6 hf6
    go_wp2_with fail
    go_loopw [35] (fun i wr => ∃ z : Int, 0 ≤ z ∧ z ≤ 2 ∧ i = .int .i64 z ∧ wr.heap[w.heap.size]? = some (.cells #[.int .u8 (x.k : Int), .int .u8 (x.n : Int), .int .u32 (x.e : Int), .int .u32 (x.l : Int), .int .u32 (x.t : Int), .int .u32 (x.g : Int), .int .u32 (x.j : Int), .int .u32 (x.v : Int), .int .u8 (x.r : Int), .int .i64 x.c, .int .u32 (x.f : Int), .int .u32 (x.o : Int), .slice A1 K1 C1] 25 (0, 0)) ∧ wr.heap[w.heap.size + 1]? = some (.cells #[.int .u8 (y.n : Int), .int .u32 (y.e : Int), .int .u32 (y.l : Int), .int .u32 (y.s : Int), .int .u32 (y.a : Int), .bool y.p, .slice A2 100 C2] 38 (0, 0)) ∧ Below w.heap.size w wr ∧ w.heap.size + 2 ≤ wr.heap.size) (fun i _ => (2 - intOf i).toNat)
    case atStart => exact ⟨0, by omega, by omega, rfl, HXb.out, HYb.out, HBb.out, hsb⟩
    case round =>
      obtain ⟨z, hz1, hz2, rfl, hx0, hy0, hbw, hsw⟩ := hrel
      have HX0 := hid hx0
      have HY0 := hid hy0
      have HB0 := hid hbw
      clear hx0 hy0 hbw
      by_cases h0 : z = 0
      · subst h0
        by_cases hxr : x.right = true
        · go_wp2_with (first | (refine load_st rfl 25 (.tmp 4) rfl w.heap.size rfl #[.int .u8 (x.k : Int), .int .u8 (x.n : Int), .int .u32 (x.e : Int), .int .u32 (x.l : Int), .int .u32 (x.t : Int), .int .u32 (x.g : Int), .int .u32 (x.j : Int), .int .u32 (x.v : Int), .int .u8 (x.r : Int), .int .i64 x.c, .int .u32 (x.f : Int), .int .u32 (x.o : Int), .slice A1 K1 C1] _ 13 HX0.out Try.underlying25 size_note rfl ?_) | fail)
          refine (refnote_yes x A1 C1 K1 HL1.out wr HX.out (HR1.out.below HB0.out) hxr).mono ?_
          rintro e w1 ⟨kv, rfl, hok, hb1⟩
          have HX1 := hid ((hb1.block w.heap.size (by omega)).trans HX0.out)
          have HY1 := hid ((hb1.block (w.heap.size + 1) (by omega)).trans HY0.out)
          have HB1 := hid (HB0.out.trans (hb1.mono (by omega)))
          have hs1 := hb1.size
          have HEL := hid (show x.enc.length ≤ 2048 from (x.enc_length hxr))
          obtain ⟨Lk, hLk⟩ : ∃ Lk, Lk = (Knot.knot x.enc).length := ⟨_, rfl⟩
          have hLk6 : 6 ≤ Lk ∧ Lk ≤ 2054 := by rw [hLk, Knot.knot_length]; have := HEL.out; omega
          have hrk := hok.rd
          obtain ⟨ad, cp, rfl⟩ : ∃ ad cp, kv = .slice ad Lk cp := by
            obtain ⟨ad, cp, e, _⟩ := hrk
            exact ⟨ad, cp, by rw [e, hLk]⟩
          have HLK := hid hLk
          have HRK := hid hrk
          obtain ⟨m, hm⟩ : ∃ m, m = q1 % (8 * Lk) := ⟨_, rfl⟩
          have hmk := hid (show m < 8 * Lk by rw [hm]; exact Nat.mod_lt _ (by omega))
          have hme := hid (show (q1 : Int) % (8 * (Lk : Int)) = (m : Int) by rw [hm]; simp)
          have hm9 : m ≤ q1 := by rw [hm]; exact Nat.mod_le _ _
          clear hm hLk hok hrk hb1
          go_wp2_with fail
          refine (turn_at _ (Knot.knot x.enc) m pat _ _ _ (by rw [← hme.out]) HPE.out HRK.out (by rw [← HLK.out]; omega) (by rw [← HLK.out]; omega) (by omega)).mono ?_
          rintro e w4 ⟨tv, t', rfl, hown4, hlen, hbits, hb4⟩
          have HNE := hid (Knot.uerr_burst x.enc t' HEL.out hlen m pat HP0.out (by rw [← HLK.out]; exact hmk.out) hbits)
          have HTL := hid (show t'.length ≤ 100000 by rw [hlen, ← HLK.out]; omega)
          have HT4 := hid hown4.rd
          have HX4 := hid ((hb4.block w.heap.size (by omega)).trans HX1.out)
          have HY4 := hid ((hb4.block (w.heap.size + 1) (by omega)).trans HY1.out)
          have HB4 := hid (HB1.out.trans (hb4.mono (by omega)))
          have hs4 := hb4.size
          clear hlen hbits hown4 hb4
          go_wp2_with fail
          refine (readnote_any tv t' w4 HT4.out HTL.out).mono ?_
          rintro e w5 ⟨u, bv, ec, rfl, hans, _, hob, hb5⟩
          have HEC := hid (ans_bad HNE.out hans)
          obtain ⟨a5, c5, hbv, _⟩ := hob.rd
          subst hbv
          have HT5 := hid (HT4.out.below hb5)
          have HX5 := hid ((hb5.block w.heap.size (by omega)).trans HX4.out)
          have HY5 := hid ((hb5.block (w.heap.size + 1) (by omega)).trans HY4.out)
          have HB5 := hid (HB4.out.trans (hb5.mono (by omega)))
          have hs5 := hb5.size
          clear hans hob hb5
          have HS5 := hid (heap_alloc_new w5 (.cells #[.int .u8 0, .int .u8 0, .int .u32 0, .int .u32 0, .int .u32 0, .int .u32 0, .int .u32 0, .int .u32 0, .int .u8 0, .int .i64 0, .int .u32 0, .int .u32 0, .slice none 0 0] 25))
          obtain ⟨w6, hw6⟩ : ∃ w6, w6 = (w5.alloc (.cells #[.int .u8 0, .int .u8 0, .int .u32 0, .int .u32 0, .int .u32 0, .int .u32 0, .int .u32 0, .int .u32 0, .int .u8 0, .int .i64 0, .int .u32 0, .int .u32 0, .slice none 0 0] 25)).setRow w5.heap.size #[.int .u8 (u.k : Int), .int .u8 (u.n : Int), .int .u32 (u.e : Int), .int .u32 (u.l : Int), .int .u32 (u.t : Int), .int .u32 (u.g : Int), .int .u32 (u.j : Int), .int .u32 (u.v : Int), .int .u8 (u.r : Int), .int .i64 u.c, .int .u32 (u.f : Int), .int .u32 (u.o : Int), .slice a5 u.b.length c5] := ⟨_, rfl⟩
          have h56 : Below w5.heap.size w5 w6 := by rw [hw6]; exact ((Below.refl _ _).alloc (Nat.le_refl _) _).trans (setRow_below _ (Nat.le_refl _))
          have HW6 := hid hw6
          have HT6 := hid (HT5.out.below h56)
          have HX6 := hid ((h56.block w.heap.size (by omega)).trans HX5.out)
          have HY6 := hid ((h56.block (w.heap.size + 1) (by omega)).trans HY5.out)
          have HB6 := hid (HB5.out.trans (h56.mono (by omega)))
          have hs6 := h56.size
          clear hw6 h56
          go_wp2_with (first | (refine store_st rfl 25 (.tmp 13) (.tmp 65) rfl w5.heap.size #[.int .u8 (u.k : Int), .int .u8 (u.n : Int), .int .u32 (u.e : Int), .int .u32 (u.l : Int), .int .u32 (u.t : Int), .int .u32 (u.g : Int), .int .u32 (u.j : Int), .int .u32 (u.v : Int), .int .u8 (u.r : Int), .int .i64 u.c, .int .u32 (u.f : Int), .int .u32 (u.o : Int), .slice a5 u.b.length c5] rfl rfl #[.int .u8 0, .int .u8 0, .int .u32 0, .int .u32 0, .int .u32 0, .int .u32 0, .int .u32 0, .int .u32 0, .int .u8 0, .int .i64 0, .int .u32 0, .int .u32 0, .slice none 0 0] 13 HS5.out size_note rfl rfl (by simp [Value.oneCell']) ?_) | fail)
          rw [← HW6.out]
          refine (readpacket_any tv t' w6 HT6.out HTL.out).mono ?_
          rintro e w7 ⟨v, bw, fc, rfl, hans, _, hob, hb7⟩
          have HFC := hid (ans_bad HNE.out hans)
          obtain ⟨a7, c7, hbv, _⟩ := hob.rd
          subst hbv
          have HX7 := hid ((hb7.block w.heap.size (by omega)).trans HX6.out)
          have HY7 := hid ((hb7.block (w.heap.size + 1) (by omega)).trans HY6.out)
          have HB7 := hid (HB6.out.trans (hb7.mono (by omega)))
          have hs7 := hb7.size
          clear hans hob hb7
          have HS7 := hid (heap_alloc_new w7 (.cells #[.int .u8 0, .int .u32 0, .int .u32 0, .int .u32 0, .int .u32 0, .bool false, .slice none 0 0] 38))
          have h78 : Below w7.heap.size w7 ((w7.alloc (.cells #[.int .u8 0, .int .u32 0, .int .u32 0, .int .u32 0, .int .u32 0, .bool false, .slice none 0 0] 38)).setRow w7.heap.size #[.int .u8 (v.n : Int), .int .u32 (v.e : Int), .int .u32 (v.l : Int), .int .u32 (v.s : Int), .int .u32 (v.a : Int), .bool v.p, .slice a7 v.b.length c7]) := ((Below.refl _ _).alloc (Nat.le_refl _) _).trans (setRow_below _ (Nat.le_refl _))
          have HX8 := hid ((h78.block w.heap.size (by omega)).trans HX7.out)
          have HY8 := hid ((h78.block (w.heap.size + 1) (by omega)).trans HY7.out)
          have HB8 := hid (HB7.out.trans (h78.mono (by omega)))
          have hs8 := h78.size
          clear h78
          have hec := HEC.out
          have hfc := HFC.out
          go_wp2_with (first | (refine store_st rfl 38 (.tmp 15) (.tmp 70) rfl w7.heap.size #[.int .u8 (v.n : Int), .int .u32 (v.e : Int), .int .u32 (v.l : Int), .int .u32 (v.s : Int), .int .u32 (v.a : Int), .bool v.p, .slice a7 v.b.length c7] rfl rfl #[.int .u8 0, .int .u32 0, .int .u32 0, .int .u32 0, .int .u32 0, .bool false, .slice none 0 0] 7 HS7.out size_packet rfl rfl (by simp [Value.oneCell']) ?_) | fail)
          go_roundw
          case rel => exact ⟨1, by omega, by omega, rfl, HX8.out, HY8.out, HB8.out, by omega⟩
          case measure => simp [intOf]
        · have hxr2 : x.right = false := by simpa using hxr
          go_wp2_with (first | (refine load_st rfl 25 (.tmp 4) rfl w.heap.size rfl #[.int .u8 (x.k : Int), .int .u8 (x.n : Int), .int .u32 (x.e : Int), .int .u32 (x.l : Int), .int .u32 (x.t : Int), .int .u32 (x.g : Int), .int .u32 (x.j : Int), .int .u32 (x.v : Int), .int .u8 (x.r : Int), .int .i64 x.c, .int .u32 (x.f : Int), .int .u32 (x.o : Int), .slice A1 K1 C1] _ 13 HX0.out Try.underlying25 size_note rfl ?_) | fail)
          refine (refnote_no x A1 C1 K1 HL1.out wr HX.out hxr2).mono ?_
          rintro e w1 ⟨rfl, hb1⟩
          have HX1 := hid ((hb1.block w.heap.size (by omega)).trans HX0.out)
          have HY1 := hid ((hb1.block (w.heap.size + 1) (by omega)).trans HY0.out)
          have HB1 := hid (HB0.out.trans (hb1.mono (by omega)))
          have hs1 := hb1.size
          go_wp2_with fail
          go_roundw
          case rel => exact ⟨1, by omega, by omega, rfl, HX1.out, HY1.out, HB1.out, by omega⟩
          case measure => simp [intOf]
      · by_cases h1 : z = 1
        · subst h1
          by_cases hxr : x.right = true
          · go_wp2_with (first | (refine load_st rfl 25 (.tmp 4) rfl w.heap.size rfl #[.int .u8 (x.k : Int), .int .u8 (x.n : Int), .int .u32 (x.e : Int), .int .u32 (x.l : Int), .int .u32 (x.t : Int), .int .u32 (x.g : Int), .int .u32 (x.j : Int), .int .u32 (x.v : Int), .int .u8 (x.r : Int), .int .i64 x.c, .int .u32 (x.f : Int), .int .u32 (x.o : Int), .slice A1 K1 C1] _ 13 HX0.out Try.underlying25 size_note rfl ?_) | fail)
            refine (refnote_yes x A1 C1 K1 HL1.out wr HX.out (HR1.out.below HB0.out) hxr).mono ?_
            rintro e w1 ⟨kv0, rfl, _, hb1⟩
            have HX1 := hid ((hb1.block w.heap.size (by omega)).trans HX0.out)
            have HY1 := hid ((hb1.block (w.heap.size + 1) (by omega)).trans HY0.out)
            have HB1 := hid (HB0.out.trans (hb1.mono (by omega)))
            have hs1 := hb1.size
            have HX2 := hid HX1.out
            have HY2 := hid HY1.out
            have HB2 := hid HB1.out
            have hs2 : w.heap.size + 2 ≤ w1.heap.size := by omega
            clear hb1
            by_cases hyr : y.right = true
            · go_wp2_with (first | (refine load_st rfl 38 (.tmp 5) rfl (w.heap.size + 1) rfl #[.int .u8 (y.n : Int), .int .u32 (y.e : Int), .int .u32 (y.l : Int), .int .u32 (y.s : Int), .int .u32 (y.a : Int), .bool y.p, .slice A2 100 C2] _ 7 HY1.out Try.underlying38 size_packet rfl ?_) | fail)
              refine (refpacket_yes y A2 C2 100 HL2.out w1 HY.out (HR2.out.below HB2.out) hyr).mono ?_
              clear HX1 HY1 HB1
              rintro e w2 ⟨kv, rfl, hok, hb1⟩
              have HX1 := hid ((hb1.block w.heap.size (by omega)).trans HX2.out)
              have HY1 := hid ((hb1.block (w.heap.size + 1) (by omega)).trans HY2.out)
              have HB1 := hid (HB2.out.trans (hb1.mono (by omega)))
              have hs3 := hb1.size
              have HEL := hid (show y.enc.length ≤ 2048 from (y.enc_length HY.out hyr))
              obtain ⟨Lk, hLk⟩ : ∃ Lk, Lk = (Knot.knot y.enc).length := ⟨_, rfl⟩
              have hLk6 : 6 ≤ Lk ∧ Lk ≤ 2054 := by rw [hLk, Knot.knot_length]; have := HEL.out; omega
              have hrk := hok.rd
              obtain ⟨ad, cp, rfl⟩ : ∃ ad cp, kv = .slice ad Lk cp := by
                obtain ⟨ad, cp, e, _⟩ := hrk
                exact ⟨ad, cp, by rw [e, hLk]⟩
              have HLK := hid hLk
              have HRK := hid hrk
              obtain ⟨m, hm⟩ : ∃ m, m = q1 % (8 * Lk) := ⟨_, rfl⟩
              have hmk := hid (show m < 8 * Lk by rw [hm]; exact Nat.mod_lt _ (by omega))
              have hme := hid (show (q1 : Int) % (8 * (Lk : Int)) = (m : Int) by rw [hm]; simp)
              have hm9 : m ≤ q1 := by rw [hm]; exact Nat.mod_le _ _
              clear hm hLk hok hrk hb1
              go_wp2_with fail
              refine (turn_at _ (Knot.knot y.enc) m pat _ _ _ (by rw [← hme.out]) HPE.out HRK.out (by rw [← HLK.out]; omega) (by rw [← HLK.out]; omega) (by omega)).mono ?_
              rintro e w4 ⟨tv, t', rfl, hown4, hlen, hbits, hb4⟩
              have HNE := hid (Knot.uerr_burst y.enc t' HEL.out hlen m pat HP0.out (by rw [← HLK.out]; exact hmk.out) hbits)
              have HTL := hid (show t'.length ≤ 100000 by rw [hlen, ← HLK.out]; omega)
              have HT4 := hid hown4.rd
              have HX4 := hid ((hb4.block w.heap.size (by omega)).trans HX1.out)
              have HY4 := hid ((hb4.block (w.heap.size + 1) (by omega)).trans HY1.out)
              have HB4 := hid (HB1.out.trans (hb4.mono (by omega)))
              have hs4 := hb4.size
              clear hlen hbits hown4 hb4
              go_wp2_with fail
              refine (readnote_any tv t' w4 HT4.out HTL.out).mono ?_
              rintro e w5 ⟨u, bv, ec, rfl, hans, _, hob, hb5⟩
              have HEC := hid (ans_bad HNE.out hans)
              obtain ⟨a5, c5, hbv, _⟩ := hob.rd
              subst hbv
              have HT5 := hid (HT4.out.below hb5)
              have HX5 := hid ((hb5.block w.heap.size (by omega)).trans HX4.out)
              have HY5 := hid ((hb5.block (w.heap.size + 1) (by omega)).trans HY4.out)
              have HB5 := hid (HB4.out.trans (hb5.mono (by omega)))
              have hs5 := hb5.size
              clear hans hob hb5
              have HS5 := hid (heap_alloc_new w5 (.cells #[.int .u8 0, .int .u8 0, .int .u32 0, .int .u32 0, .int .u32 0, .int .u32 0, .int .u32 0, .int .u32 0, .int .u8 0, .int .i64 0, .int .u32 0, .int .u32 0, .slice none 0 0] 25))
              obtain ⟨w6, hw6⟩ : ∃ w6, w6 = (w5.alloc (.cells #[.int .u8 0, .int .u8 0, .int .u32 0, .int .u32 0, .int .u32 0, .int .u32 0, .int .u32 0, .int .u32 0, .int .u8 0, .int .i64 0, .int .u32 0, .int .u32 0, .slice none 0 0] 25)).setRow w5.heap.size #[.int .u8 (u.k : Int), .int .u8 (u.n : Int), .int .u32 (u.e : Int), .int .u32 (u.l : Int), .int .u32 (u.t : Int), .int .u32 (u.g : Int), .int .u32 (u.j : Int), .int .u32 (u.v : Int), .int .u8 (u.r : Int), .int .i64 u.c, .int .u32 (u.f : Int), .int .u32 (u.o : Int), .slice a5 u.b.length c5] := ⟨_, rfl⟩
              have h56 : Below w5.heap.size w5 w6 := by rw [hw6]; exact ((Below.refl _ _).alloc (Nat.le_refl _) _).trans (setRow_below _ (Nat.le_refl _))
              have HW6 := hid hw6
              have HT6 := hid (HT5.out.below h56)
              have HX6 := hid ((h56.block w.heap.size (by omega)).trans HX5.out)
              have HY6 := hid ((h56.block (w.heap.size + 1) (by omega)).trans HY5.out)
              have HB6 := hid (HB5.out.trans (h56.mono (by omega)))
              have hs6 := h56.size
              clear hw6 h56
              go_wp2_with (first | (refine store_st rfl 25 (.tmp 13) (.tmp 65) rfl w5.heap.size #[.int .u8 (u.k : Int), .int .u8 (u.n : Int), .int .u32 (u.e : Int), .int .u32 (u.l : Int), .int .u32 (u.t : Int), .int .u32 (u.g : Int), .int .u32 (u.j : Int), .int .u32 (u.v : Int), .int .u8 (u.r : Int), .int .i64 u.c, .int .u32 (u.f : Int), .int .u32 (u.o : Int), .slice a5 u.b.length c5] rfl rfl #[.int .u8 0, .int .u8 0, .int .u32 0, .int .u32 0, .int .u32 0, .int .u32 0, .int .u32 0, .int .u32 0, .int .u8 0, .int .i64 0, .int .u32 0, .int .u32 0, .slice none 0 0] 13 HS5.out size_note rfl rfl (by simp [Value.oneCell']) ?_) | fail)
              rw [← HW6.out]
              refine (readpacket_any tv t' w6 HT6.out HTL.out).mono ?_
              rintro e w7 ⟨v, bw, fc, rfl, hans, _, hob, hb7⟩
              have HFC := hid (ans_bad HNE.out hans)
              obtain ⟨a7, c7, hbv, _⟩ := hob.rd
              subst hbv
              have HX7 := hid ((hb7.block w.heap.size (by omega)).trans HX6.out)
              have HY7 := hid ((hb7.block (w.heap.size + 1) (by omega)).trans HY6.out)
              have HB7 := hid (HB6.out.trans (hb7.mono (by omega)))
              have hs7 := hb7.size
              clear hans hob hb7
              have HS7 := hid (heap_alloc_new w7 (.cells #[.int .u8 0, .int .u32 0, .int .u32 0, .int .u32 0, .int .u32 0, .bool false, .slice none 0 0] 38))
              have h78 : Below w7.heap.size w7 ((w7.alloc (.cells #[.int .u8 0, .int .u32 0, .int .u32 0, .int .u32 0, .int .u32 0, .bool false, .slice none 0 0] 38)).setRow w7.heap.size #[.int .u8 (v.n : Int), .int .u32 (v.e : Int), .int .u32 (v.l : Int), .int .u32 (v.s : Int), .int .u32 (v.a : Int), .bool v.p, .slice a7 v.b.length c7]) := ((Below.refl _ _).alloc (Nat.le_refl _) _).trans (setRow_below _ (Nat.le_refl _))
              have HX8 := hid ((h78.block w.heap.size (by omega)).trans HX7.out)
              have HY8 := hid ((h78.block (w.heap.size + 1) (by omega)).trans HY7.out)
              have HB8 := hid (HB7.out.trans (h78.mono (by omega)))
              have hs8 := h78.size
              clear h78
              have hec := HEC.out
              have hfc := HFC.out
              go_wp2_with (first | (refine store_st rfl 38 (.tmp 15) (.tmp 70) rfl w7.heap.size #[.int .u8 (v.n : Int), .int .u32 (v.e : Int), .int .u32 (v.l : Int), .int .u32 (v.s : Int), .int .u32 (v.a : Int), .bool v.p, .slice a7 v.b.length c7] rfl rfl #[.int .u8 0, .int .u32 0, .int .u32 0, .int .u32 0, .int .u32 0, .bool false, .slice none 0 0] 7 HS7.out size_packet rfl rfl (by simp [Value.oneCell']) ?_) | fail)
              go_roundw
              case rel => exact ⟨2, by omega, by omega, rfl, HX8.out, HY8.out, HB8.out, by omega⟩
              case measure => simp [intOf]
            · have hyr2 : y.right = false := by simpa using hyr
              go_wp2_with (first | (refine load_st rfl 38 (.tmp 5) rfl (w.heap.size + 1) rfl #[.int .u8 (y.n : Int), .int .u32 (y.e : Int), .int .u32 (y.l : Int), .int .u32 (y.s : Int), .int .u32 (y.a : Int), .bool y.p, .slice A2 100 C2] _ 7 HY1.out Try.underlying38 size_packet rfl ?_) | fail)
              refine (refpacket_no y A2 C2 100 HL2.out w1 hyr2).mono ?_
              clear HX1 HY1 HB1
              rintro e w2 ⟨rfl, hb1⟩
              have HX1 := hid ((hb1.block w.heap.size (by omega)).trans HX2.out)
              have HY1 := hid ((hb1.block (w.heap.size + 1) (by omega)).trans HY2.out)
              have HB1 := hid (HB2.out.trans (hb1.mono (by omega)))
              have hs3 := hb1.size
              go_wp2_with fail
              go_roundw
              case rel => exact ⟨2, by omega, by omega, rfl, HX1.out, HY1.out, HB1.out, by omega⟩
              case measure => simp [intOf]
          · have hxr2 : x.right = false := by simpa using hxr
            go_wp2_with (first | (refine load_st rfl 25 (.tmp 4) rfl w.heap.size rfl #[.int .u8 (x.k : Int), .int .u8 (x.n : Int), .int .u32 (x.e : Int), .int .u32 (x.l : Int), .int .u32 (x.t : Int), .int .u32 (x.g : Int), .int .u32 (x.j : Int), .int .u32 (x.v : Int), .int .u8 (x.r : Int), .int .i64 x.c, .int .u32 (x.f : Int), .int .u32 (x.o : Int), .slice A1 K1 C1] _ 13 HX0.out Try.underlying25 size_note rfl ?_) | fail)
            refine (refnote_no x A1 C1 K1 HL1.out wr HX.out hxr2).mono ?_
            rintro e w1 ⟨rfl, hb1⟩
            have HX1 := hid ((hb1.block w.heap.size (by omega)).trans HX0.out)
            have HY1 := hid ((hb1.block (w.heap.size + 1) (by omega)).trans HY0.out)
            have HB1 := hid (HB0.out.trans (hb1.mono (by omega)))
            have hs1 := hb1.size
            have HX2 := hid HX1.out
            have HY2 := hid HY1.out
            have HB2 := hid HB1.out
            have hs2 : w.heap.size + 2 ≤ w1.heap.size := by omega
            clear hb1
            by_cases hyr : y.right = true
            · go_wp2_with (first | (refine load_st rfl 38 (.tmp 5) rfl (w.heap.size + 1) rfl #[.int .u8 (y.n : Int), .int .u32 (y.e : Int), .int .u32 (y.l : Int), .int .u32 (y.s : Int), .int .u32 (y.a : Int), .bool y.p, .slice A2 100 C2] _ 7 HY1.out Try.underlying38 size_packet rfl ?_) | fail)
              refine (refpacket_yes y A2 C2 100 HL2.out w1 HY.out (HR2.out.below HB2.out) hyr).mono ?_
              clear HX1 HY1 HB1
              rintro e w2 ⟨kv, rfl, hok, hb1⟩
              have HX1 := hid ((hb1.block w.heap.size (by omega)).trans HX2.out)
              have HY1 := hid ((hb1.block (w.heap.size + 1) (by omega)).trans HY2.out)
              have HB1 := hid (HB2.out.trans (hb1.mono (by omega)))
              have hs3 := hb1.size
              have HEL := hid (show y.enc.length ≤ 2048 from (y.enc_length HY.out hyr))
              obtain ⟨Lk, hLk⟩ : ∃ Lk, Lk = (Knot.knot y.enc).length := ⟨_, rfl⟩
              have hLk6 : 6 ≤ Lk ∧ Lk ≤ 2054 := by rw [hLk, Knot.knot_length]; have := HEL.out; omega
              have hrk := hok.rd
              obtain ⟨ad, cp, rfl⟩ : ∃ ad cp, kv = .slice ad Lk cp := by
                obtain ⟨ad, cp, e, _⟩ := hrk
                exact ⟨ad, cp, by rw [e, hLk]⟩
              have HLK := hid hLk
              have HRK := hid hrk
              obtain ⟨m, hm⟩ : ∃ m, m = q1 % (8 * Lk) := ⟨_, rfl⟩
              have hmk := hid (show m < 8 * Lk by rw [hm]; exact Nat.mod_lt _ (by omega))
              have hme := hid (show (q1 : Int) % (8 * (Lk : Int)) = (m : Int) by rw [hm]; simp)
              have hm9 : m ≤ q1 := by rw [hm]; exact Nat.mod_le _ _
              clear hm hLk hok hrk hb1
              go_wp2_with fail
              refine (turn_at _ (Knot.knot y.enc) m pat _ _ _ (by rw [← hme.out]) HPE.out HRK.out (by rw [← HLK.out]; omega) (by rw [← HLK.out]; omega) (by omega)).mono ?_
              rintro e w4 ⟨tv, t', rfl, hown4, hlen, hbits, hb4⟩
              have HNE := hid (Knot.uerr_burst y.enc t' HEL.out hlen m pat HP0.out (by rw [← HLK.out]; exact hmk.out) hbits)
              have HTL := hid (show t'.length ≤ 100000 by rw [hlen, ← HLK.out]; omega)
              have HT4 := hid hown4.rd
              have HX4 := hid ((hb4.block w.heap.size (by omega)).trans HX1.out)
              have HY4 := hid ((hb4.block (w.heap.size + 1) (by omega)).trans HY1.out)
              have HB4 := hid (HB1.out.trans (hb4.mono (by omega)))
              have hs4 := hb4.size
              clear hlen hbits hown4 hb4
              go_wp2_with fail
              refine (readnote_any tv t' w4 HT4.out HTL.out).mono ?_
              rintro e w5 ⟨u, bv, ec, rfl, hans, _, hob, hb5⟩
              have HEC := hid (ans_bad HNE.out hans)
              obtain ⟨a5, c5, hbv, _⟩ := hob.rd
              subst hbv
              have HT5 := hid (HT4.out.below hb5)
              have HX5 := hid ((hb5.block w.heap.size (by omega)).trans HX4.out)
              have HY5 := hid ((hb5.block (w.heap.size + 1) (by omega)).trans HY4.out)
              have HB5 := hid (HB4.out.trans (hb5.mono (by omega)))
              have hs5 := hb5.size
              clear hans hob hb5
              have HS5 := hid (heap_alloc_new w5 (.cells #[.int .u8 0, .int .u8 0, .int .u32 0, .int .u32 0, .int .u32 0, .int .u32 0, .int .u32 0, .int .u32 0, .int .u8 0, .int .i64 0, .int .u32 0, .int .u32 0, .slice none 0 0] 25))
              obtain ⟨w6, hw6⟩ : ∃ w6, w6 = (w5.alloc (.cells #[.int .u8 0, .int .u8 0, .int .u32 0, .int .u32 0, .int .u32 0, .int .u32 0, .int .u32 0, .int .u32 0, .int .u8 0, .int .i64 0, .int .u32 0, .int .u32 0, .slice none 0 0] 25)).setRow w5.heap.size #[.int .u8 (u.k : Int), .int .u8 (u.n : Int), .int .u32 (u.e : Int), .int .u32 (u.l : Int), .int .u32 (u.t : Int), .int .u32 (u.g : Int), .int .u32 (u.j : Int), .int .u32 (u.v : Int), .int .u8 (u.r : Int), .int .i64 u.c, .int .u32 (u.f : Int), .int .u32 (u.o : Int), .slice a5 u.b.length c5] := ⟨_, rfl⟩
              have h56 : Below w5.heap.size w5 w6 := by rw [hw6]; exact ((Below.refl _ _).alloc (Nat.le_refl _) _).trans (setRow_below _ (Nat.le_refl _))
              have HW6 := hid hw6
              have HT6 := hid (HT5.out.below h56)
              have HX6 := hid ((h56.block w.heap.size (by omega)).trans HX5.out)
              have HY6 := hid ((h56.block (w.heap.size + 1) (by omega)).trans HY5.out)
              have HB6 := hid (HB5.out.trans (h56.mono (by omega)))
              have hs6 := h56.size
              clear hw6 h56
              go_wp2_with (first | (refine store_st rfl 25 (.tmp 13) (.tmp 65) rfl w5.heap.size #[.int .u8 (u.k : Int), .int .u8 (u.n : Int), .int .u32 (u.e : Int), .int .u32 (u.l : Int), .int .u32 (u.t : Int), .int .u32 (u.g : Int), .int .u32 (u.j : Int), .int .u32 (u.v : Int), .int .u8 (u.r : Int), .int .i64 u.c, .int .u32 (u.f : Int), .int .u32 (u.o : Int), .slice a5 u.b.length c5] rfl rfl #[.int .u8 0, .int .u8 0, .int .u32 0, .int .u32 0, .int .u32 0, .int .u32 0, .int .u32 0, .int .u32 0, .int .u8 0, .int .i64 0, .int .u32 0, .int .u32 0, .slice none 0 0] 13 HS5.out size_note rfl rfl (by simp [Value.oneCell']) ?_) | fail)
              rw [← HW6.out]
              refine (readpacket_any tv t' w6 HT6.out HTL.out).mono ?_
              rintro e w7 ⟨v, bw, fc, rfl, hans, _, hob, hb7⟩
              have HFC := hid (ans_bad HNE.out hans)
              obtain ⟨a7, c7, hbv, _⟩ := hob.rd
              subst hbv
              have HX7 := hid ((hb7.block w.heap.size (by omega)).trans HX6.out)
              have HY7 := hid ((hb7.block (w.heap.size + 1) (by omega)).trans HY6.out)
              have HB7 := hid (HB6.out.trans (hb7.mono (by omega)))
              have hs7 := hb7.size
              clear hans hob hb7
              have HS7 := hid (heap_alloc_new w7 (.cells #[.int .u8 0, .int .u32 0, .int .u32 0, .int .u32 0, .int .u32 0, .bool false, .slice none 0 0] 38))
              have h78 : Below w7.heap.size w7 ((w7.alloc (.cells #[.int .u8 0, .int .u32 0, .int .u32 0, .int .u32 0, .int .u32 0, .bool false, .slice none 0 0] 38)).setRow w7.heap.size #[.int .u8 (v.n : Int), .int .u32 (v.e : Int), .int .u32 (v.l : Int), .int .u32 (v.s : Int), .int .u32 (v.a : Int), .bool v.p, .slice a7 v.b.length c7]) := ((Below.refl _ _).alloc (Nat.le_refl _) _).trans (setRow_below _ (Nat.le_refl _))
              have HX8 := hid ((h78.block w.heap.size (by omega)).trans HX7.out)
              have HY8 := hid ((h78.block (w.heap.size + 1) (by omega)).trans HY7.out)
              have HB8 := hid (HB7.out.trans (h78.mono (by omega)))
              have hs8 := h78.size
              clear h78
              have hec := HEC.out
              have hfc := HFC.out
              go_wp2_with (first | (refine store_st rfl 38 (.tmp 15) (.tmp 70) rfl w7.heap.size #[.int .u8 (v.n : Int), .int .u32 (v.e : Int), .int .u32 (v.l : Int), .int .u32 (v.s : Int), .int .u32 (v.a : Int), .bool v.p, .slice a7 v.b.length c7] rfl rfl #[.int .u8 0, .int .u32 0, .int .u32 0, .int .u32 0, .int .u32 0, .bool false, .slice none 0 0] 7 HS7.out size_packet rfl rfl (by simp [Value.oneCell']) ?_) | fail)
              go_roundw
              case rel => exact ⟨2, by omega, by omega, rfl, HX8.out, HY8.out, HB8.out, by omega⟩
              case measure => simp [intOf]
            · have hyr2 : y.right = false := by simpa using hyr
              go_wp2_with (first | (refine load_st rfl 38 (.tmp 5) rfl (w.heap.size + 1) rfl #[.int .u8 (y.n : Int), .int .u32 (y.e : Int), .int .u32 (y.l : Int), .int .u32 (y.s : Int), .int .u32 (y.a : Int), .bool y.p, .slice A2 100 C2] _ 7 HY1.out Try.underlying38 size_packet rfl ?_) | fail)
              refine (refpacket_no y A2 C2 100 HL2.out w1 hyr2).mono ?_
              clear HX1 HY1 HB1
              rintro e w2 ⟨rfl, hb1⟩
              have HX1 := hid ((hb1.block w.heap.size (by omega)).trans HX2.out)
              have HY1 := hid ((hb1.block (w.heap.size + 1) (by omega)).trans HY2.out)
              have HB1 := hid (HB2.out.trans (hb1.mono (by omega)))
              have hs3 := hb1.size
              go_wp2_with fail
              go_roundw
              case rel => exact ⟨2, by omega, by omega, rfl, HX1.out, HY1.out, HB1.out, by omega⟩
              case measure => simp [intOf]
        · obtain rfl : z = 2 := by omega
          go_wp2
          go_ret
          exact ⟨rfl, HB0.out⟩

set_option maxRecDepth 100000 in
set_option maxHeartbeats 8000000 in
theorem nb_ms (x : Note.N) (y : Note.P) (A1 A2 : Option Addr) (C1 C2 : Nat) (L1 : Nat) (hn1 : 100 < L1) (K2 : Nat) (hK2 : K2 ≤ 100) (q1 q2 : Nat) (pat : BitVec 32) (w : World) (hq1 : q1 < 65536) (hq2 : q2 < 4294967296) (HP0 : Hid (pat.getLsbD 0 = true)) (HPE : Hid (Go.bits .or .u32 (q2 : Int) 1 = (pat.toNat : Int))) (hC1 : C1 ≤ 9223372036854775807) (hC2 : C2 ≤ 9223372036854775807) (hLC1 : L1 ≤ C1) (hLC2 : K2 ≤ C2)
    (hx : x.wf) (hy : y.wf) (hr1 : Rd w (.slice A1 100 C1) x.b) (hr2 : Rd w (.slice A2 K2 C2) y.b) (hl1 : 100 = x.b.length) (hl2 : K2 = y.b.length) :
    Calls Try.prog 7 #[.agg #[.int .u8 (x.k : Int), .int .u8 (x.n : Int), .int .u32 (x.e : Int), .int .u32 (x.l : Int), .int .u32 (x.t : Int), .int .u32 (x.g : Int), .int .u32 (x.j : Int), .int .u32 (x.v : Int), .int .u8 (x.r : Int), .int .i64 x.c, .int .u32 (x.f : Int), .int .u32 (x.o : Int), .slice A1 L1 C1], .agg #[.int .u8 (y.n : Int), .int .u32 (y.e : Int), .int .u32 (y.l : Int), .int .u32 (y.s : Int), .int .u32 (y.a : Int), .bool y.p, .slice A2 K2 C2], .int .u16 (q1 : Int), .int .u32 (q2 : Int)] w fun e w' => e = .returned (.bool true) ∧ Below w.heap.size w w' := by
  have HX := hid hx
  have HY := hid hy
  have HR1 := hid hr1
  have HR2 := hid hr2
  have HL1 := hid hl1
  have HL2 := hid hl2
  clear hx hy hr1 hr2 hl1 hl2
  have g1 : (100 : Int) < (L1 : Int) := by omega
  go_enter Try.func7, Try.ntmps7
  go_wp2_with fail
  refine (awake4_any _).mono ?_
  rintro e wa ⟨rfl, hba⟩
  have hsa := hba.size
  simp at hsa
  have HXa := hid ((hba.block w.heap.size (by simp; omega)).trans ((Below.heap_alloc (w.alloc (.cells #[.int .u8 (x.k : Int), .int .u8 (x.n : Int), .int .u32 (x.e : Int), .int .u32 (x.l : Int), .int .u32 (x.t : Int), .int .u32 (x.g : Int), .int .u32 (x.j : Int), .int .u32 (x.v : Int), .int .u8 (x.r : Int), .int .i64 x.c, .int .u32 (x.f : Int), .int .u32 (x.o : Int), .slice A1 L1 C1] 25)) (.cells #[.int .u8 (y.n : Int), .int .u32 (y.e : Int), .int .u32 (y.l : Int), .int .u32 (y.s : Int), .int .u32 (y.a : Int), .bool y.p, .slice A2 K2 C2] 38) w.heap.size (by simp)).trans (heap_alloc_new w (.cells #[.int .u8 (x.k : Int), .int .u8 (x.n : Int), .int .u32 (x.e : Int), .int .u32 (x.l : Int), .int .u32 (x.t : Int), .int .u32 (x.g : Int), .int .u32 (x.j : Int), .int .u32 (x.v : Int), .int .u8 (x.r : Int), .int .i64 x.c, .int .u32 (x.f : Int), .int .u32 (x.o : Int), .slice A1 L1 C1] 25))))
  have HYa := hid ((hba.block (w.heap.size + 1) (by simp)).trans (heap_new1 w (.cells #[.int .u8 (x.k : Int), .int .u8 (x.n : Int), .int .u32 (x.e : Int), .int .u32 (x.l : Int), .int .u32 (x.t : Int), .int .u32 (x.g : Int), .int .u32 (x.j : Int), .int .u32 (x.v : Int), .int .u8 (x.r : Int), .int .i64 x.c, .int .u32 (x.f : Int), .int .u32 (x.o : Int), .slice A1 L1 C1] 25) (.cells #[.int .u8 (y.n : Int), .int .u32 (y.e : Int), .int .u32 (y.l : Int), .int .u32 (y.s : Int), .int .u32 (y.a : Int), .bool y.p, .slice A2 K2 C2] 38)))
  have HBa := hid (((((Below.refl w.heap.size w).alloc (Nat.le_refl _) _).alloc (by simp) _)).trans (hba.mono (by simp; omega)))
  clear hba
  have hc12 : wa.cell? ⟨w.heap.size, 12, none⟩ = some (.slice A1 L1 C1) := (cell_of_row _ _ _ _ _ _ HXa.out).trans rfl
  have hf12 : wa.frozen? ⟨w.heap.size, 12, none⟩ = false := frozen_of_row _ _ _ _ _ HXa.out
  have hc6 : wa.cell? ⟨w.heap.size + 1, 6, none⟩ = some (.slice A2 K2 C2) := (cell_of_row _ _ _ _ _ _ HYa.out).trans rfl
  have hf6 : wa.frozen? ⟨w.heap.size + 1, 6, none⟩ = false := frozen_of_row _ _ _ _ _ HYa.out
  go_upto_region 3 with (fail)
  go_cut [8] from 19 to 34 (fun r wx => r = .bool false ∧ wx = ((wa.setCell ⟨w.heap.size, 12, none⟩ (.slice A1 100 C1)).setCell ⟨w.heap.size + 1, 6, none⟩ (.slice A2 K2 C2)).drew)
  case first =>
    go_region
    all_goals (go_wp2_with fail; go_meet; exact ⟨rfl, rfl⟩)
  case rest =>
    obtain ⟨rfl, hwc⟩ := hcut
    have HXb := hid (show wc.heap[w.heap.size]? = some (.cells #[.int .u8 (x.k : Int), .int .u8 (x.n : Int), .int .u32 (x.e : Int), .int .u32 (x.l : Int), .int .u32 (x.t : Int), .int .u32 (x.g : Int), .int .u32 (x.j : Int), .int .u32 (x.v : Int), .int .u8 (x.r : Int), .int .i64 x.c, .int .u32 (x.f : Int), .int .u32 (x.o : Int), .slice A1 100 C1] 25 (0, 0)) by rw [hwc]; exact (heap_setCell_other _ _ _ _ (by simp)).trans (heap_setCell_same _ _ _ _ _ _ HXa.out))
    have HYb := hid (show wc.heap[w.heap.size + 1]? = some (.cells #[.int .u8 (y.n : Int), .int .u32 (y.e : Int), .int .u32 (y.l : Int), .int .u32 (y.s : Int), .int .u32 (y.a : Int), .bool y.p, .slice A2 K2 C2] 38 (0, 0)) by rw [hwc]; exact heap_setCell_same _ _ _ _ _ _ ((heap_setCell_other _ _ _ _ (by simp)).trans HYa.out))
    have HBb := hid (show Below w.heap.size w wc by rw [hwc]; exact below_behind1 ((HBa.out.setCell (by simp) _).setCell (by simp) _))
    have hsb : w.heap.size + 2 ≤ wc.heap.size := by rw [hwc]; simpa using hsa
    clear hwc hc12 hf12 hc6 hf6
    go_wp2_with fail
    go_loopw [35] (fun i wr => ∃ z : Int, 0 ≤ z ∧ z ≤ 2 ∧ i = .int .i64 z ∧ wr.heap[w.heap.size]? = some (.cells #[.int .u8 (x.k : Int), .int .u8 (x.n : Int), .int .u32 (x.e : Int), .int .u32 (x.l : Int), .int .u32 (x.t : Int), .int .u32 (x.g : Int), .int .u32 (x.j : Int), .int .u32 (x.v : Int), .int .u8 (x.r : Int), .int .i64 x.c, .int .u32 (x.f : Int), .int .u32 (x.o : Int), .slice A1 100 C1] 25 (0, 0)) ∧ wr.heap[w.heap.size + 1]? = some (.cells #[.int .u8 (y.n : Int), .int .u32 (y.e : Int), .int .u32 (y.l : Int), .int .u32 (y.s : Int), .int .u32 (y.a : Int), .bool y.p, .slice A2 K2 C2] 38 (0, 0)) ∧ Below w.heap.size w wr ∧ w.heap.size + 2 ≤ wr.heap.size) (fun i _ => (2 - intOf i).toNat)
    case atStart => exact ⟨0, by omega, by omega, rfl, HXb.out, HYb.out, HBb.out, hsb⟩
    case round =>
      obtain ⟨z, hz1, hz2, rfl, hx0, hy0, hbw, hsw⟩ := hrel
      have HX0 := hid hx0
      have HY0 := hid hy0
      have HB0 := hid hbw
      clear hx0 hy0 hbw
      by_cases h0 : z = 0
      · subst h0
        by_cases hxr : x.right = true
        · go_wp2_with (first | (refine load_st rfl 25 (.tmp 4) rfl w.heap.size rfl #[.int .u8 (x.k : Int), .int .u8 (x.n : Int), .int .u32 (x.e : Int), .int .u32 (x.l : Int), .int .u32 (x.t : Int), .int .u32 (x.g : Int), .int .u32 (x.j : Int), .int .u32 (x.v : Int), .int .u8 (x.r : Int), .int .i64 x.c, .int .u32 (x.f : Int), .int .u32 (x.o : Int), .slice A1 100 C1] _ 13 HX0.out Try.underlying25 size_note rfl ?_) | fail)
          refine (refnote_yes x A1 C1 100 HL1.out wr HX.out (HR1.out.below HB0.out) hxr).mono ?_
          rintro e w1 ⟨kv, rfl, hok, hb1⟩
          have HX1 := hid ((hb1.block w.heap.size (by omega)).trans HX0.out)
          have HY1 := hid ((hb1.block (w.heap.size + 1) (by omega)).trans HY0.out)
          have HB1 := hid (HB0.out.trans (hb1.mono (by omega)))
          have hs1 := hb1.size
          have HEL := hid (show x.enc.length ≤ 2048 from (x.enc_length hxr))
          obtain ⟨Lk, hLk⟩ : ∃ Lk, Lk = (Knot.knot x.enc).length := ⟨_, rfl⟩
          have hLk6 : 6 ≤ Lk ∧ Lk ≤ 2054 := by rw [hLk, Knot.knot_length]; have := HEL.out; omega
          have hrk := hok.rd
          obtain ⟨ad, cp, rfl⟩ : ∃ ad cp, kv = .slice ad Lk cp := by
            obtain ⟨ad, cp, e, _⟩ := hrk
            exact ⟨ad, cp, by rw [e, hLk]⟩
          have HLK := hid hLk
          have HRK := hid hrk
          obtain ⟨m, hm⟩ : ∃ m, m = q1 % (8 * Lk) := ⟨_, rfl⟩
          have hmk := hid (show m < 8 * Lk by rw [hm]; exact Nat.mod_lt _ (by omega))
          have hme := hid (show (q1 : Int) % (8 * (Lk : Int)) = (m : Int) by rw [hm]; simp)
          have hm9 : m ≤ q1 := by rw [hm]; exact Nat.mod_le _ _
          clear hm hLk hok hrk hb1
          go_wp2_with fail
          refine (turn_at _ (Knot.knot x.enc) m pat _ _ _ (by rw [← hme.out]) HPE.out HRK.out (by rw [← HLK.out]; omega) (by rw [← HLK.out]; omega) (by omega)).mono ?_
          rintro e w4 ⟨tv, t', rfl, hown4, hlen, hbits, hb4⟩
          have HNE := hid (Knot.uerr_burst x.enc t' HEL.out hlen m pat HP0.out (by rw [← HLK.out]; exact hmk.out) hbits)
          have HTL := hid (show t'.length ≤ 100000 by rw [hlen, ← HLK.out]; omega)
          have HT4 := hid hown4.rd
          have HX4 := hid ((hb4.block w.heap.size (by omega)).trans HX1.out)
          have HY4 := hid ((hb4.block (w.heap.size + 1) (by omega)).trans HY1.out)
          have HB4 := hid (HB1.out.trans (hb4.mono (by omega)))
          have hs4 := hb4.size
          clear hlen hbits hown4 hb4
          go_wp2_with fail
          refine (readnote_any tv t' w4 HT4.out HTL.out).mono ?_
          rintro e w5 ⟨u, bv, ec, rfl, hans, _, hob, hb5⟩
          have HEC := hid (ans_bad HNE.out hans)
          obtain ⟨a5, c5, hbv, _⟩ := hob.rd
          subst hbv
          have HT5 := hid (HT4.out.below hb5)
          have HX5 := hid ((hb5.block w.heap.size (by omega)).trans HX4.out)
          have HY5 := hid ((hb5.block (w.heap.size + 1) (by omega)).trans HY4.out)
          have HB5 := hid (HB4.out.trans (hb5.mono (by omega)))
          have hs5 := hb5.size
          clear hans hob hb5
          have HS5 := hid (heap_alloc_new w5 (.cells #[.int .u8 0, .int .u8 0, .int .u32 0, .int .u32 0, .int .u32 0, .int .u32 0, .int .u32 0, .int .u32 0, .int .u8 0, .int .i64 0, .int .u32 0, .int .u32 0, .slice none 0 0] 25))
          obtain ⟨w6, hw6⟩ : ∃ w6, w6 = (w5.alloc (.cells #[.int .u8 0, .int .u8 0, .int .u32 0, .int .u32 0, .int .u32 0, .int .u32 0, .int .u32 0, .int .u32 0, .int .u8 0, .int .i64 0, .int .u32 0, .int .u32 0, .slice none 0 0] 25)).setRow w5.heap.size #[.int .u8 (u.k : Int), .int .u8 (u.n : Int), .int .u32 (u.e : Int), .int .u32 (u.l : Int), .int .u32 (u.t : Int), .int .u32 (u.g : Int), .int .u32 (u.j : Int), .int .u32 (u.v : Int), .int .u8 (u.r : Int), .int .i64 u.c, .int .u32 (u.f : Int), .int .u32 (u.o : Int), .slice a5 u.b.length c5] := ⟨_, rfl⟩
          have h56 : Below w5.heap.size w5 w6 := by rw [hw6]; exact ((Below.refl _ _).alloc (Nat.le_refl _) _).trans (setRow_below _ (Nat.le_refl _))
          have HW6 := hid hw6
          have HT6 := hid (HT5.out.below h56)
          have HX6 := hid ((h56.block w.heap.size (by omega)).trans HX5.out)
          have HY6 := hid ((h56.block (w.heap.size + 1) (by omega)).trans HY5.out)
          have HB6 := hid (HB5.out.trans (h56.mono (by omega)))
          have hs6 := h56.size
          clear hw6 h56
          go_wp2_with (first | (refine store_st rfl 25 (.tmp 13) (.tmp 65) rfl w5.heap.size #[.int .u8 (u.k : Int), .int .u8 (u.n : Int), .int .u32 (u.e : Int), .int .u32 (u.l : Int), .int .u32 (u.t : Int), .int .u32 (u.g : Int), .int .u32 (u.j : Int), .int .u32 (u.v : Int), .int .u8 (u.r : Int), .int .i64 u.c, .int .u32 (u.f : Int), .int .u32 (u.o : Int), .slice a5 u.b.length c5] rfl rfl #[.int .u8 0, .int .u8 0, .int .u32 0, .int .u32 0, .int .u32 0, .int .u32 0, .int .u32 0, .int .u32 0, .int .u8 0, .int .i64 0, .int .u32 0, .int .u32 0, .slice none 0 0] 13 HS5.out size_note rfl rfl (by simp [Value.oneCell']) ?_) | fail)
          rw [← HW6.out]
          refine (readpacket_any tv t' w6 HT6.out HTL.out).mono ?_
          rintro e w7 ⟨v, bw, fc, rfl, hans, _, hob, hb7⟩
          have HFC := hid (ans_bad HNE.out hans)
          obtain ⟨a7, c7, hbv, _⟩ := hob.rd
          subst hbv
          have HX7 := hid ((hb7.block w.heap.size (by omega)).trans HX6.out)
          have HY7 := hid ((hb7.block (w.heap.size + 1) (by omega)).trans HY6.out)
          have HB7 := hid (HB6.out.trans (hb7.mono (by omega)))
          have hs7 := hb7.size
          clear hans hob hb7
          have HS7 := hid (heap_alloc_new w7 (.cells #[.int .u8 0, .int .u32 0, .int .u32 0, .int .u32 0, .int .u32 0, .bool false, .slice none 0 0] 38))
          have h78 : Below w7.heap.size w7 ((w7.alloc (.cells #[.int .u8 0, .int .u32 0, .int .u32 0, .int .u32 0, .int .u32 0, .bool false, .slice none 0 0] 38)).setRow w7.heap.size #[.int .u8 (v.n : Int), .int .u32 (v.e : Int), .int .u32 (v.l : Int), .int .u32 (v.s : Int), .int .u32 (v.a : Int), .bool v.p, .slice a7 v.b.length c7]) := ((Below.refl _ _).alloc (Nat.le_refl _) _).trans (setRow_below _ (Nat.le_refl _))
          have HX8 := hid ((h78.block w.heap.size (by omega)).trans HX7.out)
          have HY8 := hid ((h78.block (w.heap.size + 1) (by omega)).trans HY7.out)
          have HB8 := hid (HB7.out.trans (h78.mono (by omega)))
          have hs8 := h78.size
          clear h78
          have hec := HEC.out
          have hfc := HFC.out
          go_wp2_with (first | (refine store_st rfl 38 (.tmp 15) (.tmp 70) rfl w7.heap.size #[.int .u8 (v.n : Int), .int .u32 (v.e : Int), .int .u32 (v.l : Int), .int .u32 (v.s : Int), .int .u32 (v.a : Int), .bool v.p, .slice a7 v.b.length c7] rfl rfl #[.int .u8 0, .int .u32 0, .int .u32 0, .int .u32 0, .int .u32 0, .bool false, .slice none 0 0] 7 HS7.out size_packet rfl rfl (by simp [Value.oneCell']) ?_) | fail)
          go_roundw
          case rel => exact ⟨1, by omega, by omega, rfl, HX8.out, HY8.out, HB8.out, by omega⟩
          case measure => simp [intOf]
        · have hxr2 : x.right = false := by simpa using hxr
          go_wp2_with (first | (refine load_st rfl 25 (.tmp 4) rfl w.heap.size rfl #[.int .u8 (x.k : Int), .int .u8 (x.n : Int), .int .u32 (x.e : Int), .int .u32 (x.l : Int), .int .u32 (x.t : Int), .int .u32 (x.g : Int), .int .u32 (x.j : Int), .int .u32 (x.v : Int), .int .u8 (x.r : Int), .int .i64 x.c, .int .u32 (x.f : Int), .int .u32 (x.o : Int), .slice A1 100 C1] _ 13 HX0.out Try.underlying25 size_note rfl ?_) | fail)
          refine (refnote_no x A1 C1 100 HL1.out wr HX.out hxr2).mono ?_
          rintro e w1 ⟨rfl, hb1⟩
          have HX1 := hid ((hb1.block w.heap.size (by omega)).trans HX0.out)
          have HY1 := hid ((hb1.block (w.heap.size + 1) (by omega)).trans HY0.out)
          have HB1 := hid (HB0.out.trans (hb1.mono (by omega)))
          have hs1 := hb1.size
          go_wp2_with fail
          go_roundw
          case rel => exact ⟨1, by omega, by omega, rfl, HX1.out, HY1.out, HB1.out, by omega⟩
          case measure => simp [intOf]
      · by_cases h1 : z = 1
        · subst h1
          by_cases hxr : x.right = true
          · go_wp2_with (first | (refine load_st rfl 25 (.tmp 4) rfl w.heap.size rfl #[.int .u8 (x.k : Int), .int .u8 (x.n : Int), .int .u32 (x.e : Int), .int .u32 (x.l : Int), .int .u32 (x.t : Int), .int .u32 (x.g : Int), .int .u32 (x.j : Int), .int .u32 (x.v : Int), .int .u8 (x.r : Int), .int .i64 x.c, .int .u32 (x.f : Int), .int .u32 (x.o : Int), .slice A1 100 C1] _ 13 HX0.out Try.underlying25 size_note rfl ?_) | fail)
            refine (refnote_yes x A1 C1 100 HL1.out wr HX.out (HR1.out.below HB0.out) hxr).mono ?_
            rintro e w1 ⟨kv0, rfl, _, hb1⟩
            have HX1 := hid ((hb1.block w.heap.size (by omega)).trans HX0.out)
            have HY1 := hid ((hb1.block (w.heap.size + 1) (by omega)).trans HY0.out)
            have HB1 := hid (HB0.out.trans (hb1.mono (by omega)))
            have hs1 := hb1.size
            have HX2 := hid HX1.out
            have HY2 := hid HY1.out
            have HB2 := hid HB1.out
            have hs2 : w.heap.size + 2 ≤ w1.heap.size := by omega
            clear hb1
            by_cases hyr : y.right = true
            · go_wp2_with (first | (refine load_st rfl 38 (.tmp 5) rfl (w.heap.size + 1) rfl #[.int .u8 (y.n : Int), .int .u32 (y.e : Int), .int .u32 (y.l : Int), .int .u32 (y.s : Int), .int .u32 (y.a : Int), .bool y.p, .slice A2 K2 C2] _ 7 HY1.out Try.underlying38 size_packet rfl ?_) | fail)
              refine (refpacket_yes y A2 C2 K2 HL2.out w1 HY.out (HR2.out.below HB2.out) hyr).mono ?_
              clear HX1 HY1 HB1
              rintro e w2 ⟨kv, rfl, hok, hb1⟩
              have HX1 := hid ((hb1.block w.heap.size (by omega)).trans HX2.out)
              have HY1 := hid ((hb1.block (w.heap.size + 1) (by omega)).trans HY2.out)
              have HB1 := hid (HB2.out.trans (hb1.mono (by omega)))
              have hs3 := hb1.size
              have HEL := hid (show y.enc.length ≤ 2048 from (y.enc_length HY.out hyr))
              obtain ⟨Lk, hLk⟩ : ∃ Lk, Lk = (Knot.knot y.enc).length := ⟨_, rfl⟩
              have hLk6 : 6 ≤ Lk ∧ Lk ≤ 2054 := by rw [hLk, Knot.knot_length]; have := HEL.out; omega
              have hrk := hok.rd
              obtain ⟨ad, cp, rfl⟩ : ∃ ad cp, kv = .slice ad Lk cp := by
                obtain ⟨ad, cp, e, _⟩ := hrk
                exact ⟨ad, cp, by rw [e, hLk]⟩
              have HLK := hid hLk
              have HRK := hid hrk
              obtain ⟨m, hm⟩ : ∃ m, m = q1 % (8 * Lk) := ⟨_, rfl⟩
              have hmk := hid (show m < 8 * Lk by rw [hm]; exact Nat.mod_lt _ (by omega))
              have hme := hid (show (q1 : Int) % (8 * (Lk : Int)) = (m : Int) by rw [hm]; simp)
              have hm9 : m ≤ q1 := by rw [hm]; exact Nat.mod_le _ _
              clear hm hLk hok hrk hb1
              go_wp2_with fail
              refine (turn_at _ (Knot.knot y.enc) m pat _ _ _ (by rw [← hme.out]) HPE.out HRK.out (by rw [← HLK.out]; omega) (by rw [← HLK.out]; omega) (by omega)).mono ?_
              rintro e w4 ⟨tv, t', rfl, hown4, hlen, hbits, hb4⟩
              have HNE := hid (Knot.uerr_burst y.enc t' HEL.out hlen m pat HP0.out (by rw [← HLK.out]; exact hmk.out) hbits)
              have HTL := hid (show t'.length ≤ 100000 by rw [hlen, ← HLK.out]; omega)
              have HT4 := hid hown4.rd
              have HX4 := hid ((hb4.block w.heap.size (by omega)).trans HX1.out)
              have HY4 := hid ((hb4.block (w.heap.size + 1) (by omega)).trans HY1.out)
              have HB4 := hid (HB1.out.trans (hb4.mono (by omega)))
              have hs4 := hb4.size
              clear hlen hbits hown4 hb4
              go_wp2_with fail
              refine (readnote_any tv t' w4 HT4.out HTL.out).mono ?_
              rintro e w5 ⟨u, bv, ec, rfl, hans, _, hob, hb5⟩
              have HEC := hid (ans_bad HNE.out hans)
              obtain ⟨a5, c5, hbv, _⟩ := hob.rd
              subst hbv
              have HT5 := hid (HT4.out.below hb5)
              have HX5 := hid ((hb5.block w.heap.size (by omega)).trans HX4.out)
              have HY5 := hid ((hb5.block (w.heap.size + 1) (by omega)).trans HY4.out)
              have HB5 := hid (HB4.out.trans (hb5.mono (by omega)))
              have hs5 := hb5.size
              clear hans hob hb5
              have HS5 := hid (heap_alloc_new w5 (.cells #[.int .u8 0, .int .u8 0, .int .u32 0, .int .u32 0, .int .u32 0, .int .u32 0, .int .u32 0, .int .u32 0, .int .u8 0, .int .i64 0, .int .u32 0, .int .u32 0, .slice none 0 0] 25))
              obtain ⟨w6, hw6⟩ : ∃ w6, w6 = (w5.alloc (.cells #[.int .u8 0, .int .u8 0, .int .u32 0, .int .u32 0, .int .u32 0, .int .u32 0, .int .u32 0, .int .u32 0, .int .u8 0, .int .i64 0, .int .u32 0, .int .u32 0, .slice none 0 0] 25)).setRow w5.heap.size #[.int .u8 (u.k : Int), .int .u8 (u.n : Int), .int .u32 (u.e : Int), .int .u32 (u.l : Int), .int .u32 (u.t : Int), .int .u32 (u.g : Int), .int .u32 (u.j : Int), .int .u32 (u.v : Int), .int .u8 (u.r : Int), .int .i64 u.c, .int .u32 (u.f : Int), .int .u32 (u.o : Int), .slice a5 u.b.length c5] := ⟨_, rfl⟩
              have h56 : Below w5.heap.size w5 w6 := by rw [hw6]; exact ((Below.refl _ _).alloc (Nat.le_refl _) _).trans (setRow_below _ (Nat.le_refl _))
              have HW6 := hid hw6
              have HT6 := hid (HT5.out.below h56)
              have HX6 := hid ((h56.block w.heap.size (by omega)).trans HX5.out)
              have HY6 := hid ((h56.block (w.heap.size + 1) (by omega)).trans HY5.out)
              have HB6 := hid (HB5.out.trans (h56.mono (by omega)))
              have hs6 := h56.size
              clear hw6 h56
              go_wp2_with (first | (refine store_st rfl 25 (.tmp 13) (.tmp 65) rfl w5.heap.size #[.int .u8 (u.k : Int), .int .u8 (u.n : Int), .int .u32 (u.e : Int), .int .u32 (u.l : Int), .int .u32 (u.t : Int), .int .u32 (u.g : Int), .int .u32 (u.j : Int), .int .u32 (u.v : Int), .int .u8 (u.r : Int), .int .i64 u.c, .int .u32 (u.f : Int), .int .u32 (u.o : Int), .slice a5 u.b.length c5] rfl rfl #[.int .u8 0, .int .u8 0, .int .u32 0, .int .u32 0, .int .u32 0, .int .u32 0, .int .u32 0, .int .u32 0, .int .u8 0, .int .i64 0, .int .u32 0, .int .u32 0, .slice none 0 0] 13 HS5.out size_note rfl rfl (by simp [Value.oneCell']) ?_) | fail)
              rw [← HW6.out]
              refine (readpacket_any tv t' w6 HT6.out HTL.out).mono ?_
              rintro e w7 ⟨v, bw, fc, rfl, hans, _, hob, hb7⟩
              have HFC := hid (ans_bad HNE.out hans)
              obtain ⟨a7, c7, hbv, _⟩ := hob.rd
              subst hbv
              have HX7 := hid ((hb7.block w.heap.size (by omega)).trans HX6.out)
              have HY7 := hid ((hb7.block (w.heap.size + 1) (by omega)).trans HY6.out)
              have HB7 := hid (HB6.out.trans (hb7.mono (by omega)))
              have hs7 := hb7.size
              clear hans hob hb7
              have HS7 := hid (heap_alloc_new w7 (.cells #[.int .u8 0, .int .u32 0, .int .u32 0, .int .u32 0, .int .u32 0, .bool false, .slice none 0 0] 38))
              have h78 : Below w7.heap.size w7 ((w7.alloc (.cells #[.int .u8 0, .int .u32 0, .int .u32 0, .int .u32 0, .int .u32 0, .bool false, .slice none 0 0] 38)).setRow w7.heap.size #[.int .u8 (v.n : Int), .int .u32 (v.e : Int), .int .u32 (v.l : Int), .int .u32 (v.s : Int), .int .u32 (v.a : Int), .bool v.p, .slice a7 v.b.length c7]) := ((Below.refl _ _).alloc (Nat.le_refl _) _).trans (setRow_below _ (Nat.le_refl _))
              have HX8 := hid ((h78.block w.heap.size (by omega)).trans HX7.out)
              have HY8 := hid ((h78.block (w.heap.size + 1) (by omega)).trans HY7.out)
              have HB8 := hid (HB7.out.trans (h78.mono (by omega)))
              have hs8 := h78.size
              clear h78
              have hec := HEC.out
              have hfc := HFC.out
              go_wp2_with (first | (refine store_st rfl 38 (.tmp 15) (.tmp 70) rfl w7.heap.size #[.int .u8 (v.n : Int), .int .u32 (v.e : Int), .int .u32 (v.l : Int), .int .u32 (v.s : Int), .int .u32 (v.a : Int), .bool v.p, .slice a7 v.b.length c7] rfl rfl #[.int .u8 0, .int .u32 0, .int .u32 0, .int .u32 0, .int .u32 0, .bool false, .slice none 0 0] 7 HS7.out size_packet rfl rfl (by simp [Value.oneCell']) ?_) | fail)
              go_roundw
              case rel => exact ⟨2, by omega, by omega, rfl, HX8.out, HY8.out, HB8.out, by omega⟩
              case measure => simp [intOf]
            · have hyr2 : y.right = false := by simpa using hyr
              go_wp2_with (first | (refine load_st rfl 38 (.tmp 5) rfl (w.heap.size + 1) rfl #[.int .u8 (y.n : Int), .int .u32 (y.e : Int), .int .u32 (y.l : Int), .int .u32 (y.s : Int), .int .u32 (y.a : Int), .bool y.p, .slice A2 K2 C2] _ 7 HY1.out Try.underlying38 size_packet rfl ?_) | fail)
              refine (refpacket_no y A2 C2 K2 HL2.out w1 hyr2).mono ?_
              clear HX1 HY1 HB1
              rintro e w2 ⟨rfl, hb1⟩
              have HX1 := hid ((hb1.block w.heap.size (by omega)).trans HX2.out)
              have HY1 := hid ((hb1.block (w.heap.size + 1) (by omega)).trans HY2.out)
              have HB1 := hid (HB2.out.trans (hb1.mono (by omega)))
              have hs3 := hb1.size
              go_wp2_with fail
              go_roundw
              case rel => exact ⟨2, by omega, by omega, rfl, HX1.out, HY1.out, HB1.out, by omega⟩
              case measure => simp [intOf]
          · have hxr2 : x.right = false := by simpa using hxr
            go_wp2_with (first | (refine load_st rfl 25 (.tmp 4) rfl w.heap.size rfl #[.int .u8 (x.k : Int), .int .u8 (x.n : Int), .int .u32 (x.e : Int), .int .u32 (x.l : Int), .int .u32 (x.t : Int), .int .u32 (x.g : Int), .int .u32 (x.j : Int), .int .u32 (x.v : Int), .int .u8 (x.r : Int), .int .i64 x.c, .int .u32 (x.f : Int), .int .u32 (x.o : Int), .slice A1 100 C1] _ 13 HX0.out Try.underlying25 size_note rfl ?_) | fail)
            refine (refnote_no x A1 C1 100 HL1.out wr HX.out hxr2).mono ?_
            rintro e w1 ⟨rfl, hb1⟩
            have HX1 := hid ((hb1.block w.heap.size (by omega)).trans HX0.out)
            have HY1 := hid ((hb1.block (w.heap.size + 1) (by omega)).trans HY0.out)
            have HB1 := hid (HB0.out.trans (hb1.mono (by omega)))
            have hs1 := hb1.size
            have HX2 := hid HX1.out
            have HY2 := hid HY1.out
            have HB2 := hid HB1.out
            have hs2 : w.heap.size + 2 ≤ w1.heap.size := by omega
            clear hb1
            by_cases hyr : y.right = true
            · go_wp2_with (first | (refine load_st rfl 38 (.tmp 5) rfl (w.heap.size + 1) rfl #[.int .u8 (y.n : Int), .int .u32 (y.e : Int), .int .u32 (y.l : Int), .int .u32 (y.s : Int), .int .u32 (y.a : Int), .bool y.p, .slice A2 K2 C2] _ 7 HY1.out Try.underlying38 size_packet rfl ?_) | fail)
              refine (refpacket_yes y A2 C2 K2 HL2.out w1 HY.out (HR2.out.below HB2.out) hyr).mono ?_
              clear HX1 HY1 HB1
              rintro e w2 ⟨kv, rfl, hok, hb1⟩
              have HX1 := hid ((hb1.block w.heap.size (by omega)).trans HX2.out)
              have HY1 := hid ((hb1.block (w.heap.size + 1) (by omega)).trans HY2.out)
              have HB1 := hid (HB2.out.trans (hb1.mono (by omega)))
              have hs3 := hb1.size
              have HEL := hid (show y.enc.length ≤ 2048 from (y.enc_length HY.out hyr))
              obtain ⟨Lk, hLk⟩ : ∃ Lk, Lk = (Knot.knot y.enc).length := ⟨_, rfl⟩
              have hLk6 : 6 ≤ Lk ∧ Lk ≤ 2054 := by rw [hLk, Knot.knot_length]; have := HEL.out; omega
              have hrk := hok.rd
              obtain ⟨ad, cp, rfl⟩ : ∃ ad cp, kv = .slice ad Lk cp := by
                obtain ⟨ad, cp, e, _⟩ := hrk
                exact ⟨ad, cp, by rw [e, hLk]⟩
              have HLK := hid hLk
              have HRK := hid hrk
              obtain ⟨m, hm⟩ : ∃ m, m = q1 % (8 * Lk) := ⟨_, rfl⟩
              have hmk := hid (show m < 8 * Lk by rw [hm]; exact Nat.mod_lt _ (by omega))
              have hme := hid (show (q1 : Int) % (8 * (Lk : Int)) = (m : Int) by rw [hm]; simp)
              have hm9 : m ≤ q1 := by rw [hm]; exact Nat.mod_le _ _
              clear hm hLk hok hrk hb1
              go_wp2_with fail
              refine (turn_at _ (Knot.knot y.enc) m pat _ _ _ (by rw [← hme.out]) HPE.out HRK.out (by rw [← HLK.out]; omega) (by rw [← HLK.out]; omega) (by omega)).mono ?_
              rintro e w4 ⟨tv, t', rfl, hown4, hlen, hbits, hb4⟩
              have HNE := hid (Knot.uerr_burst y.enc t' HEL.out hlen m pat HP0.out (by rw [← HLK.out]; exact hmk.out) hbits)
              have HTL := hid (show t'.length ≤ 100000 by rw [hlen, ← HLK.out]; omega)
              have HT4 := hid hown4.rd
              have HX4 := hid ((hb4.block w.heap.size (by omega)).trans HX1.out)
              have HY4 := hid ((hb4.block (w.heap.size + 1) (by omega)).trans HY1.out)
              have HB4 := hid (HB1.out.trans (hb4.mono (by omega)))
              have hs4 := hb4.size
              clear hlen hbits hown4 hb4
              go_wp2_with fail
              refine (readnote_any tv t' w4 HT4.out HTL.out).mono ?_
              rintro e w5 ⟨u, bv, ec, rfl, hans, _, hob, hb5⟩
              have HEC := hid (ans_bad HNE.out hans)
              obtain ⟨a5, c5, hbv, _⟩ := hob.rd
              subst hbv
              have HT5 := hid (HT4.out.below hb5)
              have HX5 := hid ((hb5.block w.heap.size (by omega)).trans HX4.out)
              have HY5 := hid ((hb5.block (w.heap.size + 1) (by omega)).trans HY4.out)
              have HB5 := hid (HB4.out.trans (hb5.mono (by omega)))
              have hs5 := hb5.size
              clear hans hob hb5
              have HS5 := hid (heap_alloc_new w5 (.cells #[.int .u8 0, .int .u8 0, .int .u32 0, .int .u32 0, .int .u32 0, .int .u32 0, .int .u32 0, .int .u32 0, .int .u8 0, .int .i64 0, .int .u32 0, .int .u32 0, .slice none 0 0] 25))
              obtain ⟨w6, hw6⟩ : ∃ w6, w6 = (w5.alloc (.cells #[.int .u8 0, .int .u8 0, .int .u32 0, .int .u32 0, .int .u32 0, .int .u32 0, .int .u32 0, .int .u32 0, .int .u8 0, .int .i64 0, .int .u32 0, .int .u32 0, .slice none 0 0] 25)).setRow w5.heap.size #[.int .u8 (u.k : Int), .int .u8 (u.n : Int), .int .u32 (u.e : Int), .int .u32 (u.l : Int), .int .u32 (u.t : Int), .int .u32 (u.g : Int), .int .u32 (u.j : Int), .int .u32 (u.v : Int), .int .u8 (u.r : Int), .int .i64 u.c, .int .u32 (u.f : Int), .int .u32 (u.o : Int), .slice a5 u.b.length c5] := ⟨_, rfl⟩
              have h56 : Below w5.heap.size w5 w6 := by rw [hw6]; exact ((Below.refl _ _).alloc (Nat.le_refl _) _).trans (setRow_below _ (Nat.le_refl _))
              have HW6 := hid hw6
              have HT6 := hid (HT5.out.below h56)
              have HX6 := hid ((h56.block w.heap.size (by omega)).trans HX5.out)
              have HY6 := hid ((h56.block (w.heap.size + 1) (by omega)).trans HY5.out)
              have HB6 := hid (HB5.out.trans (h56.mono (by omega)))
              have hs6 := h56.size
              clear hw6 h56
              go_wp2_with (first | (refine store_st rfl 25 (.tmp 13) (.tmp 65) rfl w5.heap.size #[.int .u8 (u.k : Int), .int .u8 (u.n : Int), .int .u32 (u.e : Int), .int .u32 (u.l : Int), .int .u32 (u.t : Int), .int .u32 (u.g : Int), .int .u32 (u.j : Int), .int .u32 (u.v : Int), .int .u8 (u.r : Int), .int .i64 u.c, .int .u32 (u.f : Int), .int .u32 (u.o : Int), .slice a5 u.b.length c5] rfl rfl #[.int .u8 0, .int .u8 0, .int .u32 0, .int .u32 0, .int .u32 0, .int .u32 0, .int .u32 0, .int .u32 0, .int .u8 0, .int .i64 0, .int .u32 0, .int .u32 0, .slice none 0 0] 13 HS5.out size_note rfl rfl (by simp [Value.oneCell']) ?_) | fail)
              rw [← HW6.out]
              refine (readpacket_any tv t' w6 HT6.out HTL.out).mono ?_
              rintro e w7 ⟨v, bw, fc, rfl, hans, _, hob, hb7⟩
              have HFC := hid (ans_bad HNE.out hans)
              obtain ⟨a7, c7, hbv, _⟩ := hob.rd
              subst hbv
              have HX7 := hid ((hb7.block w.heap.size (by omega)).trans HX6.out)
              have HY7 := hid ((hb7.block (w.heap.size + 1) (by omega)).trans HY6.out)
              have HB7 := hid (HB6.out.trans (hb7.mono (by omega)))
              have hs7 := hb7.size
              clear hans hob hb7
              have HS7 := hid (heap_alloc_new w7 (.cells #[.int .u8 0, .int .u32 0, .int .u32 0, .int .u32 0, .int .u32 0, .bool false, .slice none 0 0] 38))
              have h78 : Below w7.heap.size w7 ((w7.alloc (.cells #[.int .u8 0, .int .u32 0, .int .u32 0, .int .u32 0, .int .u32 0, .bool false, .slice none 0 0] 38)).setRow w7.heap.size #[.int .u8 (v.n : Int), .int .u32 (v.e : Int), .int .u32 (v.l : Int), .int .u32 (v.s : Int), .int .u32 (v.a : Int), .bool v.p, .slice a7 v.b.length c7]) := ((Below.refl _ _).alloc (Nat.le_refl _) _).trans (setRow_below _ (Nat.le_refl _))
              have HX8 := hid ((h78.block w.heap.size (by omega)).trans HX7.out)
              have HY8 := hid ((h78.block (w.heap.size + 1) (by omega)).trans HY7.out)
              have HB8 := hid (HB7.out.trans (h78.mono (by omega)))
              have hs8 := h78.size
              clear h78
              have hec := HEC.out
              have hfc := HFC.out
              go_wp2_with (first | (refine store_st rfl 38 (.tmp 15) (.tmp 70) rfl w7.heap.size #[.int .u8 (v.n : Int), .int .u32 (v.e : Int), .int .u32 (v.l : Int), .int .u32 (v.s : Int), .int .u32 (v.a : Int), .bool v.p, .slice a7 v.b.length c7] rfl rfl #[.int .u8 0, .int .u32 0, .int .u32 0, .int .u32 0, .int .u32 0, .bool false, .slice none 0 0] 7 HS7.out size_packet rfl rfl (by simp [Value.oneCell']) ?_) | fail)
              go_roundw
              case rel => exact ⟨2, by omega, by omega, rfl, HX8.out, HY8.out, HB8.out, by omega⟩
              case measure => simp [intOf]
            · have hyr2 : y.right = false := by simpa using hyr
              go_wp2_with (first | (refine load_st rfl 38 (.tmp 5) rfl (w.heap.size + 1) rfl #[.int .u8 (y.n : Int), .int .u32 (y.e : Int), .int .u32 (y.l : Int), .int .u32 (y.s : Int), .int .u32 (y.a : Int), .bool y.p, .slice A2 K2 C2] _ 7 HY1.out Try.underlying38 size_packet rfl ?_) | fail)
              refine (refpacket_no y A2 C2 K2 HL2.out w1 hyr2).mono ?_
              clear HX1 HY1 HB1
              rintro e w2 ⟨rfl, hb1⟩
              have HX1 := hid ((hb1.block w.heap.size (by omega)).trans HX2.out)
              have HY1 := hid ((hb1.block (w.heap.size + 1) (by omega)).trans HY2.out)
              have HB1 := hid (HB2.out.trans (hb1.mono (by omega)))
              have hs3 := hb1.size
              go_wp2_with fail
              go_roundw
              case rel => exact ⟨2, by omega, by omega, rfl, HX1.out, HY1.out, HB1.out, by omega⟩
              case measure => simp [intOf]
        · obtain rfl : z = 2 := by omega
          go_wp2
          go_ret
          exact ⟨rfl, HB0.out⟩

set_option maxRecDepth 100000 in
set_option maxHeartbeats 8000000 in
theorem nb_mm (x : Note.N) (y : Note.P) (A1 A2 : Option Addr) (C1 C2 : Nat) (L1 : Nat) (hn1 : 100 < L1) (L2 : Nat) (hn2 : 100 < L2) (q1 q2 : Nat) (pat : BitVec 32) (w : World) (hq1 : q1 < 65536) (hq2 : q2 < 4294967296) (HP0 : Hid (pat.getLsbD 0 = true)) (HPE : Hid (Go.bits .or .u32 (q2 : Int) 1 = (pat.toNat : Int))) (hC1 : C1 ≤ 9223372036854775807) (hC2 : C2 ≤ 9223372036854775807) (hLC1 : L1 ≤ C1) (hLC2 : L2 ≤ C2)
    (hx : x.wf) (hy : y.wf) (hr1 : Rd w (.slice A1 100 C1) x.b) (hr2 : Rd w (.slice A2 100 C2) y.b) (hl1 : 100 = x.b.length) (hl2 : 100 = y.b.length) :
    Calls Try.prog 7 #[.agg #[.int .u8 (x.k : Int), .int .u8 (x.n : Int), .int .u32 (x.e : Int), .int .u32 (x.l : Int), .int .u32 (x.t : Int), .int .u32 (x.g : Int), .int .u32 (x.j : Int), .int .u32 (x.v : Int), .int .u8 (x.r : Int), .int .i64 x.c, .int .u32 (x.f : Int), .int .u32 (x.o : Int), .slice A1 L1 C1], .agg #[.int .u8 (y.n : Int), .int .u32 (y.e : Int), .int .u32 (y.l : Int), .int .u32 (y.s : Int), .int .u32 (y.a : Int), .bool y.p, .slice A2 L2 C2], .int .u16 (q1 : Int), .int .u32 (q2 : Int)] w fun e w' => e = .returned (.bool true) ∧ Below w.heap.size w w' := by
  have HX := hid hx
  have HY := hid hy
  have HR1 := hid hr1
  have HR2 := hid hr2
  have HL1 := hid hl1
  have HL2 := hid hl2
  clear hx hy hr1 hr2 hl1 hl2
  have g1 : (100 : Int) < (L1 : Int) := by omega
  have g2 : (100 : Int) < (L2 : Int) := by omega
  go_enter Try.func7, Try.ntmps7
  go_wp2_with fail
  refine (awake4_any _).mono ?_
  rintro e wa ⟨rfl, hba⟩
  have hsa := hba.size
  simp at hsa
  have HXa := hid ((hba.block w.heap.size (by simp; omega)).trans ((Below.heap_alloc (w.alloc (.cells #[.int .u8 (x.k : Int), .int .u8 (x.n : Int), .int .u32 (x.e : Int), .int .u32 (x.l : Int), .int .u32 (x.t : Int), .int .u32 (x.g : Int), .int .u32 (x.j : Int), .int .u32 (x.v : Int), .int .u8 (x.r : Int), .int .i64 x.c, .int .u32 (x.f : Int), .int .u32 (x.o : Int), .slice A1 L1 C1] 25)) (.cells #[.int .u8 (y.n : Int), .int .u32 (y.e : Int), .int .u32 (y.l : Int), .int .u32 (y.s : Int), .int .u32 (y.a : Int), .bool y.p, .slice A2 L2 C2] 38) w.heap.size (by simp)).trans (heap_alloc_new w (.cells #[.int .u8 (x.k : Int), .int .u8 (x.n : Int), .int .u32 (x.e : Int), .int .u32 (x.l : Int), .int .u32 (x.t : Int), .int .u32 (x.g : Int), .int .u32 (x.j : Int), .int .u32 (x.v : Int), .int .u8 (x.r : Int), .int .i64 x.c, .int .u32 (x.f : Int), .int .u32 (x.o : Int), .slice A1 L1 C1] 25))))
  have HYa := hid ((hba.block (w.heap.size + 1) (by simp)).trans (heap_new1 w (.cells #[.int .u8 (x.k : Int), .int .u8 (x.n : Int), .int .u32 (x.e : Int), .int .u32 (x.l : Int), .int .u32 (x.t : Int), .int .u32 (x.g : Int), .int .u32 (x.j : Int), .int .u32 (x.v : Int), .int .u8 (x.r : Int), .int .i64 x.c, .int .u32 (x.f : Int), .int .u32 (x.o : Int), .slice A1 L1 C1] 25) (.cells #[.int .u8 (y.n : Int), .int .u32 (y.e : Int), .int .u32 (y.l : Int), .int .u32 (y.s : Int), .int .u32 (y.a : Int), .bool y.p, .slice A2 L2 C2] 38)))
  have HBa := hid (((((Below.refl w.heap.size w).alloc (Nat.le_refl _) _).alloc (by simp) _)).trans (hba.mono (by simp; omega)))
  clear hba
  have hc12 : wa.cell? ⟨w.heap.size, 12, none⟩ = some (.slice A1 L1 C1) := (cell_of_row _ _ _ _ _ _ HXa.out).trans rfl
  have hf12 : wa.frozen? ⟨w.heap.size, 12, none⟩ = false := frozen_of_row _ _ _ _ _ HXa.out
  have hc6 : wa.cell? ⟨w.heap.size + 1, 6, none⟩ = some (.slice A2 L2 C2) := (cell_of_row _ _ _ _ _ _ HYa.out).trans rfl
  have hf6 : wa.frozen? ⟨w.heap.size + 1, 6, none⟩ = false := frozen_of_row _ _ _ _ _ HYa.out
  go_upto_region 3 with (fail)
  go_cut [8] from 19 to 34 (fun r wx => r = .bool false ∧ wx = ((wa.setCell ⟨w.heap.size, 12, none⟩ (.slice A1 100 C1)).setCell ⟨w.heap.size + 1, 6, none⟩ (.slice A2 100 C2)).drew)
  case first =>
    go_region
    all_goals (go_wp2_with fail; go_meet; exact ⟨rfl, rfl⟩)
  case rest =>
    obtain ⟨rfl, hwc⟩ := hcut
    have HXb := hid (show wc.heap[w.heap.size]? = some (.cells #[.int .u8 (x.k : Int), .int .u8 (x.n : Int), .int .u32 (x.e : Int), .int .u32 (x.l : Int), .int .u32 (x.t : Int), .int .u32 (x.g : Int), .int .u32 (x.j : Int), .int .u32 (x.v : Int), .int .u8 (x.r : Int), .int .i64 x.c, .int .u32 (x.f : Int), .int .u32 (x.o : Int), .slice A1 100 C1] 25 (0, 0)) by rw [hwc]; exact (heap_setCell_other _ _ _ _ (by simp)).trans (heap_setCell_same _ _ _ _ _ _ HXa.out))
    have HYb := hid (show wc.heap[w.heap.size + 1]? = some (.cells #[.int .u8 (y.n : Int), .int .u32 (y.e : Int), .int .u32 (y.l : Int), .int .u32 (y.s : Int), .int .u32 (y.a : Int), .bool y.p, .slice A2 100 C2] 38 (0, 0)) by rw [hwc]; exact heap_setCell_same _ _ _ _ _ _ ((heap_setCell_other _ _ _ _ (by simp)).trans HYa.out))
    have HBb := hid (show Below w.heap.size w wc by rw [hwc]; exact below_behind1 ((HBa.out.setCell (by simp) _).setCell (by simp) _))
    have hsb : w.heap.size + 2 ≤ wc.heap.size := by rw [hwc]; simpa using hsa
    clear hwc hc12 hf12 hc6 hf6
    go_wp2_with fail
    go_loopw [35] (fun i wr => ∃ z : Int, 0 ≤ z ∧ z ≤ 2 ∧ i = .int .i64 z ∧ wr.heap[w.heap.size]? = some (.cells #[.int .u8 (x.k : Int), .int .u8 (x.n : Int), .int .u32 (x.e : Int), .int .u32 (x.l : Int), .int .u32 (x.t : Int), .int .u32 (x.g : Int), .int .u32 (x.j : Int), .int .u32 (x.v : Int), .int .u8 (x.r : Int), .int .i64 x.c, .int .u32 (x.f : Int), .int .u32 (x.o : Int), .slice A1 100 C1] 25 (0, 0)) ∧ wr.heap[w.heap.size + 1]? = some (.cells #[.int .u8 (y.n : Int), .int .u32 (y.e : Int), .int .u32 (y.l : Int), .int .u32 (y.s : Int), .int .u32 (y.a : Int), .bool y.p, .slice A2 100 C2] 38 (0, 0)) ∧ Below w.heap.size w wr ∧ w.heap.size + 2 ≤ wr.heap.size) (fun i _ => (2 - intOf i).toNat)
    case atStart => exact ⟨0, by omega, by omega, rfl, HXb.out, HYb.out, HBb.out, hsb⟩
    case round =>
      obtain ⟨z, hz1, hz2, rfl, hx0, hy0, hbw, hsw⟩ := hrel
      have HX0 := hid hx0
      have HY0 := hid hy0
      have HB0 := hid hbw
      clear hx0 hy0 hbw
      by_cases h0 : z = 0
      · subst h0
        by_cases hxr : x.right = true
        · go_wp2_with (first | (refine load_st rfl 25 (.tmp 4) rfl w.heap.size rfl #[.int .u8 (x.k : Int), .int .u8 (x.n : Int), .int .u32 (x.e : Int), .int .u32 (x.l : Int), .int .u32 (x.t : Int), .int .u32 (x.g : Int), .int .u32 (x.j : Int), .int .u32 (x.v : Int), .int .u8 (x.r : Int), .int .i64 x.c, .int .u32 (x.f : Int), .int .u32 (x.o : Int), .slice A1 100 C1] _ 13 HX0.out Try.underlying25 size_note rfl ?_) | fail)
          refine (refnote_yes x A1 C1 100 HL1.out wr HX.out (HR1.out.below HB0.out) hxr).mono ?_
          rintro e w1 ⟨kv, rfl, hok, hb1⟩
          have HX1 := hid ((hb1.block w.heap.size (by omega)).trans HX0.out)
          have HY1 := hid ((hb1.block (w.heap.size + 1) (by omega)).trans HY0.out)
          have HB1 := hid (HB0.out.trans (hb1.mono (by omega)))
          have hs1 := hb1.size
          have HEL := hid (show x.enc.length ≤ 2048 from (x.enc_length hxr))
          obtain ⟨Lk, hLk⟩ : ∃ Lk, Lk = (Knot.knot x.enc).length := ⟨_, rfl⟩
          have hLk6 : 6 ≤ Lk ∧ Lk ≤ 2054 := by rw [hLk, Knot.knot_length]; have := HEL.out; omega
          have hrk := hok.rd
          obtain ⟨ad, cp, rfl⟩ : ∃ ad cp, kv = .slice ad Lk cp := by
            obtain ⟨ad, cp, e, _⟩ := hrk
            exact ⟨ad, cp, by rw [e, hLk]⟩
          have HLK := hid hLk
          have HRK := hid hrk
          obtain ⟨m, hm⟩ : ∃ m, m = q1 % (8 * Lk) := ⟨_, rfl⟩
          have hmk := hid (show m < 8 * Lk by rw [hm]; exact Nat.mod_lt _ (by omega))
          have hme := hid (show (q1 : Int) % (8 * (Lk : Int)) = (m : Int) by rw [hm]; simp)
          have hm9 : m ≤ q1 := by rw [hm]; exact Nat.mod_le _ _
          clear hm hLk hok hrk hb1
          go_wp2_with fail
          refine (turn_at _ (Knot.knot x.enc) m pat _ _ _ (by rw [← hme.out]) HPE.out HRK.out (by rw [← HLK.out]; omega) (by rw [← HLK.out]; omega) (by omega)).mono ?_
          rintro e w4 ⟨tv, t', rfl, hown4, hlen, hbits, hb4⟩
          have HNE := hid (Knot.uerr_burst x.enc t' HEL.out hlen m pat HP0.out (by rw [← HLK.out]; exact hmk.out) hbits)
          have HTL := hid (show t'.length ≤ 100000 by rw [hlen, ← HLK.out]; omega)
          have HT4 := hid hown4.rd
          have HX4 := hid ((hb4.block w.heap.size (by omega)).trans HX1.out)
          have HY4 := hid ((hb4.block (w.heap.size + 1) (by omega)).trans HY1.out)
          have HB4 := hid (HB1.out.trans (hb4.mono (by omega)))
          have hs4 := hb4.size
          clear hlen hbits hown4 hb4
          go_wp2_with fail
          refine (readnote_any tv t' w4 HT4.out HTL.out).mono ?_
          rintro e w5 ⟨u, bv, ec, rfl, hans, _, hob, hb5⟩
          have HEC := hid (ans_bad HNE.out hans)
          obtain ⟨a5, c5, hbv, _⟩ := hob.rd
          subst hbv
          have HT5 := hid (HT4.out.below hb5)
          have HX5 := hid ((hb5.block w.heap.size (by omega)).trans HX4.out)
          have HY5 := hid ((hb5.block (w.heap.size + 1) (by omega)).trans HY4.out)
          have HB5 := hid (HB4.out.trans (hb5.mono (by omega)))
          have hs5 := hb5.size
          clear hans hob hb5
          have HS5 := hid (heap_alloc_new w5 (.cells #[.int .u8 0, .int .u8 0, .int .u32 0, .int .u32 0, .int .u32 0, .int .u32 0, .int .u32 0, .int .u32 0, .int .u8 0, .int .i64 0, .int .u32 0, .int .u32 0, .slice none 0 0] 25))
          obtain ⟨w6, hw6⟩ : ∃ w6, w6 = (w5.alloc (.cells #[.int .u8 0, .int .u8 0, .int .u32 0, .int .u32 0, .int .u32 0, .int .u32 0, .int .u32 0, .int .u32 0, .int .u8 0, .int .i64 0, .int .u32 0, .int .u32 0, .slice none 0 0] 25)).setRow w5.heap.size #[.int .u8 (u.k : Int), .int .u8 (u.n : Int), .int .u32 (u.e : Int), .int .u32 (u.l : Int), .int .u32 (u.t : Int), .int .u32 (u.g : Int), .int .u32 (u.j : Int), .int .u32 (u.v : Int), .int .u8 (u.r : Int), .int .i64 u.c, .int .u32 (u.f : Int), .int .u32 (u.o : Int), .slice a5 u.b.length c5] := ⟨_, rfl⟩
          have h56 : Below w5.heap.size w5 w6 := by rw [hw6]; exact ((Below.refl _ _).alloc (Nat.le_refl _) _).trans (setRow_below _ (Nat.le_refl _))
          have HW6 := hid hw6
          have HT6 := hid (HT5.out.below h56)
          have HX6 := hid ((h56.block w.heap.size (by omega)).trans HX5.out)
          have HY6 := hid ((h56.block (w.heap.size + 1) (by omega)).trans HY5.out)
          have HB6 := hid (HB5.out.trans (h56.mono (by omega)))
          have hs6 := h56.size
          clear hw6 h56
          go_wp2_with (first | (refine store_st rfl 25 (.tmp 13) (.tmp 65) rfl w5.heap.size #[.int .u8 (u.k : Int), .int .u8 (u.n : Int), .int .u32 (u.e : Int), .int .u32 (u.l : Int), .int .u32 (u.t : Int), .int .u32 (u.g : Int), .int .u32 (u.j : Int), .int .u32 (u.v : Int), .int .u8 (u.r : Int), .int .i64 u.c, .int .u32 (u.f : Int), .int .u32 (u.o : Int), .slice a5 u.b.length c5] rfl rfl #[.int .u8 0, .int .u8 0, .int .u32 0, .int .u32 0, .int .u32 0, .int .u32 0, .int .u32 0, .int .u32 0, .int .u8 0, .int .i64 0, .int .u32 0, .int .u32 0, .slice none 0 0] 13 HS5.out size_note rfl rfl (by simp [Value.oneCell']) ?_) | fail)
          rw [← HW6.out]
          refine (readpacket_any tv t' w6 HT6.out HTL.out).mono ?_
          rintro e w7 ⟨v, bw, fc, rfl, hans, _, hob, hb7⟩
          have HFC := hid (ans_bad HNE.out hans)
          obtain ⟨a7, c7, hbv, _⟩ := hob.rd
          subst hbv
          have HX7 := hid ((hb7.block w.heap.size (by omega)).trans HX6.out)
          have HY7 := hid ((hb7.block (w.heap.size + 1) (by omega)).trans HY6.out)
          have HB7 := hid (HB6.out.trans (hb7.mono (by omega)))
          have hs7 := hb7.size
          clear hans hob hb7
          have HS7 := hid (heap_alloc_new w7 (.cells #[.int .u8 0, .int .u32 0, .int .u32 0, .int .u32 0, .int .u32 0, .bool false, .slice none 0 0] 38))
          have h78 : Below w7.heap.size w7 ((w7.alloc (.cells #[.int .u8 0, .int .u32 0, .int .u32 0, .int .u32 0, .int .u32 0, .bool false, .slice none 0 0] 38)).setRow w7.heap.size #[.int .u8 (v.n : Int), .int .u32 (v.e : Int), .int .u32 (v.l : Int), .int .u32 (v.s : Int), .int .u32 (v.a : Int), .bool v.p, .slice a7 v.b.length c7]) := ((Below.refl _ _).alloc (Nat.le_refl _) _).trans (setRow_below _ (Nat.le_refl _))
          have HX8 := hid ((h78.block w.heap.size (by omega)).trans HX7.out)
          have HY8 := hid ((h78.block (w.heap.size + 1) (by omega)).trans HY7.out)
          have HB8 := hid (HB7.out.trans (h78.mono (by omega)))
          have hs8 := h78.size
          clear h78
          have hec := HEC.out
          have hfc := HFC.out
          go_wp2_with (first | (refine store_st rfl 38 (.tmp 15) (.tmp 70) rfl w7.heap.size #[.int .u8 (v.n : Int), .int .u32 (v.e : Int), .int .u32 (v.l : Int), .int .u32 (v.s : Int), .int .u32 (v.a : Int), .bool v.p, .slice a7 v.b.length c7] rfl rfl #[.int .u8 0, .int .u32 0, .int .u32 0, .int .u32 0, .int .u32 0, .bool false, .slice none 0 0] 7 HS7.out size_packet rfl rfl (by simp [Value.oneCell']) ?_) | fail)
          go_roundw
          case rel => exact ⟨1, by omega, by omega, rfl, HX8.out, HY8.out, HB8.out, by omega⟩
          case measure => simp [intOf]
        · have hxr2 : x.right = false := by simpa using hxr
          go_wp2_with (first | (refine load_st rfl 25 (.tmp 4) rfl w.heap.size rfl #[.int .u8 (x.k : Int), .int .u8 (x.n : Int), .int .u32 (x.e : Int), .int .u32 (x.l : Int), .int .u32 (x.t : Int), .int .u32 (x.g : Int), .int .u32 (x.j : Int), .int .u32 (x.v : Int), .int .u8 (x.r : Int), .int .i64 x.c, .int .u32 (x.f : Int), .int .u32 (x.o : Int), .slice A1 100 C1] _ 13 HX0.out Try.underlying25 size_note rfl ?_) | fail)
          refine (refnote_no x A1 C1 100 HL1.out wr HX.out hxr2).mono ?_
          rintro e w1 ⟨rfl, hb1⟩
          have HX1 := hid ((hb1.block w.heap.size (by omega)).trans HX0.out)
          have HY1 := hid ((hb1.block (w.heap.size + 1) (by omega)).trans HY0.out)
          have HB1 := hid (HB0.out.trans (hb1.mono (by omega)))
          have hs1 := hb1.size
          go_wp2_with fail
          go_roundw
          case rel => exact ⟨1, by omega, by omega, rfl, HX1.out, HY1.out, HB1.out, by omega⟩
          case measure => simp [intOf]
      · by_cases h1 : z = 1
        · subst h1
          by_cases hxr : x.right = true
          · go_wp2_with (first | (refine load_st rfl 25 (.tmp 4) rfl w.heap.size rfl #[.int .u8 (x.k : Int), .int .u8 (x.n : Int), .int .u32 (x.e : Int), .int .u32 (x.l : Int), .int .u32 (x.t : Int), .int .u32 (x.g : Int), .int .u32 (x.j : Int), .int .u32 (x.v : Int), .int .u8 (x.r : Int), .int .i64 x.c, .int .u32 (x.f : Int), .int .u32 (x.o : Int), .slice A1 100 C1] _ 13 HX0.out Try.underlying25 size_note rfl ?_) | fail)
            refine (refnote_yes x A1 C1 100 HL1.out wr HX.out (HR1.out.below HB0.out) hxr).mono ?_
            rintro e w1 ⟨kv0, rfl, _, hb1⟩
            have HX1 := hid ((hb1.block w.heap.size (by omega)).trans HX0.out)
            have HY1 := hid ((hb1.block (w.heap.size + 1) (by omega)).trans HY0.out)
            have HB1 := hid (HB0.out.trans (hb1.mono (by omega)))
            have hs1 := hb1.size
            have HX2 := hid HX1.out
            have HY2 := hid HY1.out
            have HB2 := hid HB1.out
            have hs2 : w.heap.size + 2 ≤ w1.heap.size := by omega
            clear hb1
            by_cases hyr : y.right = true
            · go_wp2_with (first | (refine load_st rfl 38 (.tmp 5) rfl (w.heap.size + 1) rfl #[.int .u8 (y.n : Int), .int .u32 (y.e : Int), .int .u32 (y.l : Int), .int .u32 (y.s : Int), .int .u32 (y.a : Int), .bool y.p, .slice A2 100 C2] _ 7 HY1.out Try.underlying38 size_packet rfl ?_) | fail)
              refine (refpacket_yes y A2 C2 100 HL2.out w1 HY.out (HR2.out.below HB2.out) hyr).mono ?_
              clear HX1 HY1 HB1
              rintro e w2 ⟨kv, rfl, hok, hb1⟩
              have HX1 := hid ((hb1.block w.heap.size (by omega)).trans HX2.out)
              have HY1 := hid ((hb1.block (w.heap.size + 1) (by omega)).trans HY2.out)
              have HB1 := hid (HB2.out.trans (hb1.mono (by omega)))
              have hs3 := hb1.size
              have HEL := hid (show y.enc.length ≤ 2048 from (y.enc_length HY.out hyr))
              obtain ⟨Lk, hLk⟩ : ∃ Lk, Lk = (Knot.knot y.enc).length := ⟨_, rfl⟩
              have hLk6 : 6 ≤ Lk ∧ Lk ≤ 2054 := by rw [hLk, Knot.knot_length]; have := HEL.out; omega
              have hrk := hok.rd
              obtain ⟨ad, cp, rfl⟩ : ∃ ad cp, kv = .slice ad Lk cp := by
                obtain ⟨ad, cp, e, _⟩ := hrk
                exact ⟨ad, cp, by rw [e, hLk]⟩
              have HLK := hid hLk
              have HRK := hid hrk
              obtain ⟨m, hm⟩ : ∃ m, m = q1 % (8 * Lk) := ⟨_, rfl⟩
              have hmk := hid (show m < 8 * Lk by rw [hm]; exact Nat.mod_lt _ (by omega))
              have hme := hid (show (q1 : Int) % (8 * (Lk : Int)) = (m : Int) by rw [hm]; simp)
              have hm9 : m ≤ q1 := by rw [hm]; exact Nat.mod_le _ _
              clear hm hLk hok hrk hb1
              go_wp2_with fail
              refine (turn_at _ (Knot.knot y.enc) m pat _ _ _ (by rw [← hme.out]) HPE.out HRK.out (by rw [← HLK.out]; omega) (by rw [← HLK.out]; omega) (by omega)).mono ?_
              rintro e w4 ⟨tv, t', rfl, hown4, hlen, hbits, hb4⟩
              have HNE := hid (Knot.uerr_burst y.enc t' HEL.out hlen m pat HP0.out (by rw [← HLK.out]; exact hmk.out) hbits)
              have HTL := hid (show t'.length ≤ 100000 by rw [hlen, ← HLK.out]; omega)
              have HT4 := hid hown4.rd
              have HX4 := hid ((hb4.block w.heap.size (by omega)).trans HX1.out)
              have HY4 := hid ((hb4.block (w.heap.size + 1) (by omega)).trans HY1.out)
              have HB4 := hid (HB1.out.trans (hb4.mono (by omega)))
              have hs4 := hb4.size
              clear hlen hbits hown4 hb4
              go_wp2_with fail
              refine (readnote_any tv t' w4 HT4.out HTL.out).mono ?_
              rintro e w5 ⟨u, bv, ec, rfl, hans, _, hob, hb5⟩
              have HEC := hid (ans_bad HNE.out hans)
              obtain ⟨a5, c5, hbv, _⟩ := hob.rd
              subst hbv
              have HT5 := hid (HT4.out.below hb5)
              have HX5 := hid ((hb5.block w.heap.size (by omega)).trans HX4.out)
              have HY5 := hid ((hb5.block (w.heap.size + 1) (by omega)).trans HY4.out)
              have HB5 := hid (HB4.out.trans (hb5.mono (by omega)))
              have hs5 := hb5.size
              clear hans hob hb5
              have HS5 := hid (heap_alloc_new w5 (.cells #[.int .u8 0, .int .u8 0, .int .u32 0, .int .u32 0, .int .u32 0, .int .u32 0, .int .u32 0, .int .u32 0, .int .u8 0, .int .i64 0, .int .u32 0, .int .u32 0, .slice none 0 0] 25))
              obtain ⟨w6, hw6⟩ : ∃ w6, w6 = (w5.alloc (.cells #[.int .u8 0, .int .u8 0, .int .u32 0, .int .u32 0, .int .u32 0, .int .u32 0, .int .u32 0, .int .u32 0, .int .u8 0, .int .i64 0, .int .u32 0, .int .u32 0, .slice none 0 0] 25)).setRow w5.heap.size #[.int .u8 (u.k : Int), .int .u8 (u.n : Int), .int .u32 (u.e : Int), .int .u32 (u.l : Int), .int .u32 (u.t : Int), .int .u32 (u.g : Int), .int .u32 (u.j : Int), .int .u32 (u.v : Int), .int .u8 (u.r : Int), .int .i64 u.c, .int .u32 (u.f : Int), .int .u32 (u.o : Int), .slice a5 u.b.length c5] := ⟨_, rfl⟩
              have h56 : Below w5.heap.size w5 w6 := by rw [hw6]; exact ((Below.refl _ _).alloc (Nat.le_refl _) _).trans (setRow_below _ (Nat.le_refl _))
              have HW6 := hid hw6
              have HT6 := hid (HT5.out.below h56)
              have HX6 := hid ((h56.block w.heap.size (by omega)).trans HX5.out)
              have HY6 := hid ((h56.block (w.heap.size + 1) (by omega)).trans HY5.out)
              have HB6 := hid (HB5.out.trans (h56.mono (by omega)))
              have hs6 := h56.size
              clear hw6 h56
              go_wp2_with (first | (refine store_st rfl 25 (.tmp 13) (.tmp 65) rfl w5.heap.size #[.int .u8 (u.k : Int), .int .u8 (u.n : Int), .int .u32 (u.e : Int), .int .u32 (u.l : Int), .int .u32 (u.t : Int), .int .u32 (u.g : Int), .int .u32 (u.j : Int), .int .u32 (u.v : Int), .int .u8 (u.r : Int), .int .i64 u.c, .int .u32 (u.f : Int), .int .u32 (u.o : Int), .slice a5 u.b.length c5] rfl rfl #[.int .u8 0, .int .u8 0, .int .u32 0, .int .u32 0, .int .u32 0, .int .u32 0, .int .u32 0, .int .u32 0, .int .u8 0, .int .i64 0, .int .u32 0, .int .u32 0, .slice none 0 0] 13 HS5.out size_note rfl rfl (by simp [Value.oneCell']) ?_) | fail)
              rw [← HW6.out]
              refine (readpacket_any tv t' w6 HT6.out HTL.out).mono ?_
              rintro e w7 ⟨v, bw, fc, rfl, hans, _, hob, hb7⟩
              have HFC := hid (ans_bad HNE.out hans)
              obtain ⟨a7, c7, hbv, _⟩ := hob.rd
              subst hbv
              have HX7 := hid ((hb7.block w.heap.size (by omega)).trans HX6.out)
              have HY7 := hid ((hb7.block (w.heap.size + 1) (by omega)).trans HY6.out)
              have HB7 := hid (HB6.out.trans (hb7.mono (by omega)))
              have hs7 := hb7.size
              clear hans hob hb7
              have HS7 := hid (heap_alloc_new w7 (.cells #[.int .u8 0, .int .u32 0, .int .u32 0, .int .u32 0, .int .u32 0, .bool false, .slice none 0 0] 38))
              have h78 : Below w7.heap.size w7 ((w7.alloc (.cells #[.int .u8 0, .int .u32 0, .int .u32 0, .int .u32 0, .int .u32 0, .bool false, .slice none 0 0] 38)).setRow w7.heap.size #[.int .u8 (v.n : Int), .int .u32 (v.e : Int), .int .u32 (v.l : Int), .int .u32 (v.s : Int), .int .u32 (v.a : Int), .bool v.p, .slice a7 v.b.length c7]) := ((Below.refl _ _).alloc (Nat.le_refl _) _).trans (setRow_below _ (Nat.le_refl _))
              have HX8 := hid ((h78.block w.heap.size (by omega)).trans HX7.out)
              have HY8 := hid ((h78.block (w.heap.size + 1) (by omega)).trans HY7.out)
              have HB8 := hid (HB7.out.trans (h78.mono (by omega)))
              have hs8 := h78.size
              clear h78
              have hec := HEC.out
              have hfc := HFC.out
              go_wp2_with (first | (refine store_st rfl 38 (.tmp 15) (.tmp 70) rfl w7.heap.size #[.int .u8 (v.n : Int), .int .u32 (v.e : Int), .int .u32 (v.l : Int), .int .u32 (v.s : Int), .int .u32 (v.a : Int), .bool v.p, .slice a7 v.b.length c7] rfl rfl #[.int .u8 0, .int .u32 0, .int .u32 0, .int .u32 0, .int .u32 0, .bool false, .slice none 0 0] 7 HS7.out size_packet rfl rfl (by simp [Value.oneCell']) ?_) | fail)
              go_roundw
              case rel => exact ⟨2, by omega, by omega, rfl, HX8.out, HY8.out, HB8.out, by omega⟩
              case measure => simp [intOf]
            · have hyr2 : y.right = false := by simpa using hyr
              go_wp2_with (first | (refine load_st rfl 38 (.tmp 5) rfl (w.heap.size + 1) rfl #[.int .u8 (y.n : Int), .int .u32 (y.e : Int), .int .u32 (y.l : Int), .int .u32 (y.s : Int), .int .u32 (y.a : Int), .bool y.p, .slice A2 100 C2] _ 7 HY1.out Try.underlying38 size_packet rfl ?_) | fail)
              refine (refpacket_no y A2 C2 100 HL2.out w1 hyr2).mono ?_
              clear HX1 HY1 HB1
              rintro e w2 ⟨rfl, hb1⟩
              have HX1 := hid ((hb1.block w.heap.size (by omega)).trans HX2.out)
              have HY1 := hid ((hb1.block (w.heap.size + 1) (by omega)).trans HY2.out)
              have HB1 := hid (HB2.out.trans (hb1.mono (by omega)))
              have hs3 := hb1.size
              go_wp2_with fail
              go_roundw
              case rel => exact ⟨2, by omega, by omega, rfl, HX1.out, HY1.out, HB1.out, by omega⟩
              case measure => simp [intOf]
          · have hxr2 : x.right = false := by simpa using hxr
            go_wp2_with (first | (refine load_st rfl 25 (.tmp 4) rfl w.heap.size rfl #[.int .u8 (x.k : Int), .int .u8 (x.n : Int), .int .u32 (x.e : Int), .int .u32 (x.l : Int), .int .u32 (x.t : Int), .int .u32 (x.g : Int), .int .u32 (x.j : Int), .int .u32 (x.v : Int), .int .u8 (x.r : Int), .int .i64 x.c, .int .u32 (x.f : Int), .int .u32 (x.o : Int), .slice A1 100 C1] _ 13 HX0.out Try.underlying25 size_note rfl ?_) | fail)
            refine (refnote_no x A1 C1 100 HL1.out wr HX.out hxr2).mono ?_
            rintro e w1 ⟨rfl, hb1⟩
            have HX1 := hid ((hb1.block w.heap.size (by omega)).trans HX0.out)
            have HY1 := hid ((hb1.block (w.heap.size + 1) (by omega)).trans HY0.out)
            have HB1 := hid (HB0.out.trans (hb1.mono (by omega)))
            have hs1 := hb1.size
            have HX2 := hid HX1.out
            have HY2 := hid HY1.out
            have HB2 := hid HB1.out
            have hs2 : w.heap.size + 2 ≤ w1.heap.size := by omega
            clear hb1
            by_cases hyr : y.right = true
            · go_wp2_with (first | (refine load_st rfl 38 (.tmp 5) rfl (w.heap.size + 1) rfl #[.int .u8 (y.n : Int), .int .u32 (y.e : Int), .int .u32 (y.l : Int), .int .u32 (y.s : Int), .int .u32 (y.a : Int), .bool y.p, .slice A2 100 C2] _ 7 HY1.out Try.underlying38 size_packet rfl ?_) | fail)
              refine (refpacket_yes y A2 C2 100 HL2.out w1 HY.out (HR2.out.below HB2.out) hyr).mono ?_
              clear HX1 HY1 HB1
              rintro e w2 ⟨kv, rfl, hok, hb1⟩
              have HX1 := hid ((hb1.block w.heap.size (by omega)).trans HX2.out)
              have HY1 := hid ((hb1.block (w.heap.size + 1) (by omega)).trans HY2.out)
              have HB1 := hid (HB2.out.trans (hb1.mono (by omega)))
              have hs3 := hb1.size
              have HEL := hid (show y.enc.length ≤ 2048 from (y.enc_length HY.out hyr))
              obtain ⟨Lk, hLk⟩ : ∃ Lk, Lk = (Knot.knot y.enc).length := ⟨_, rfl⟩
              have hLk6 : 6 ≤ Lk ∧ Lk ≤ 2054 := by rw [hLk, Knot.knot_length]; have := HEL.out; omega
              have hrk := hok.rd
              obtain ⟨ad, cp, rfl⟩ : ∃ ad cp, kv = .slice ad Lk cp := by
                obtain ⟨ad, cp, e, _⟩ := hrk
                exact ⟨ad, cp, by rw [e, hLk]⟩
              have HLK := hid hLk
              have HRK := hid hrk
              obtain ⟨m, hm⟩ : ∃ m, m = q1 % (8 * Lk) := ⟨_, rfl⟩
              have hmk := hid (show m < 8 * Lk by rw [hm]; exact Nat.mod_lt _ (by omega))
              have hme := hid (show (q1 : Int) % (8 * (Lk : Int)) = (m : Int) by rw [hm]; simp)
              have hm9 : m ≤ q1 := by rw [hm]; exact Nat.mod_le _ _
              clear hm hLk hok hrk hb1
              go_wp2_with fail
              refine (turn_at _ (Knot.knot y.enc) m pat _ _ _ (by rw [← hme.out]) HPE.out HRK.out (by rw [← HLK.out]; omega) (by rw [← HLK.out]; omega) (by omega)).mono ?_
              rintro e w4 ⟨tv, t', rfl, hown4, hlen, hbits, hb4⟩
              have HNE := hid (Knot.uerr_burst y.enc t' HEL.out hlen m pat HP0.out (by rw [← HLK.out]; exact hmk.out) hbits)
              have HTL := hid (show t'.length ≤ 100000 by rw [hlen, ← HLK.out]; omega)
              have HT4 := hid hown4.rd
              have HX4 := hid ((hb4.block w.heap.size (by omega)).trans HX1.out)
              have HY4 := hid ((hb4.block (w.heap.size + 1) (by omega)).trans HY1.out)
              have HB4 := hid (HB1.out.trans (hb4.mono (by omega)))
              have hs4 := hb4.size
              clear hlen hbits hown4 hb4
              go_wp2_with fail
              refine (readnote_any tv t' w4 HT4.out HTL.out).mono ?_
              rintro e w5 ⟨u, bv, ec, rfl, hans, _, hob, hb5⟩
              have HEC := hid (ans_bad HNE.out hans)
              obtain ⟨a5, c5, hbv, _⟩ := hob.rd
              subst hbv
              have HT5 := hid (HT4.out.below hb5)
              have HX5 := hid ((hb5.block w.heap.size (by omega)).trans HX4.out)
              have HY5 := hid ((hb5.block (w.heap.size + 1) (by omega)).trans HY4.out)
              have HB5 := hid (HB4.out.trans (hb5.mono (by omega)))
              have hs5 := hb5.size
              clear hans hob hb5
              have HS5 := hid (heap_alloc_new w5 (.cells #[.int .u8 0, .int .u8 0, .int .u32 0, .int .u32 0, .int .u32 0, .int .u32 0, .int .u32 0, .int .u32 0, .int .u8 0, .int .i64 0, .int .u32 0, .int .u32 0, .slice none 0 0] 25))
              obtain ⟨w6, hw6⟩ : ∃ w6, w6 = (w5.alloc (.cells #[.int .u8 0, .int .u8 0, .int .u32 0, .int .u32 0, .int .u32 0, .int .u32 0, .int .u32 0, .int .u32 0, .int .u8 0, .int .i64 0, .int .u32 0, .int .u32 0, .slice none 0 0] 25)).setRow w5.heap.size #[.int .u8 (u.k : Int), .int .u8 (u.n : Int), .int .u32 (u.e : Int), .int .u32 (u.l : Int), .int .u32 (u.t : Int), .int .u32 (u.g : Int), .int .u32 (u.j : Int), .int .u32 (u.v : Int), .int .u8 (u.r : Int), .int .i64 u.c, .int .u32 (u.f : Int), .int .u32 (u.o : Int), .slice a5 u.b.length c5] := ⟨_, rfl⟩
              have h56 : Below w5.heap.size w5 w6 := by rw [hw6]; exact ((Below.refl _ _).alloc (Nat.le_refl _) _).trans (setRow_below _ (Nat.le_refl _))
              have HW6 := hid hw6
              have HT6 := hid (HT5.out.below h56)
              have HX6 := hid ((h56.block w.heap.size (by omega)).trans HX5.out)
              have HY6 := hid ((h56.block (w.heap.size + 1) (by omega)).trans HY5.out)
              have HB6 := hid (HB5.out.trans (h56.mono (by omega)))
              have hs6 := h56.size
              clear hw6 h56
              go_wp2_with (first | (refine store_st rfl 25 (.tmp 13) (.tmp 65) rfl w5.heap.size #[.int .u8 (u.k : Int), .int .u8 (u.n : Int), .int .u32 (u.e : Int), .int .u32 (u.l : Int), .int .u32 (u.t : Int), .int .u32 (u.g : Int), .int .u32 (u.j : Int), .int .u32 (u.v : Int), .int .u8 (u.r : Int), .int .i64 u.c, .int .u32 (u.f : Int), .int .u32 (u.o : Int), .slice a5 u.b.length c5] rfl rfl #[.int .u8 0, .int .u8 0, .int .u32 0, .int .u32 0, .int .u32 0, .int .u32 0, .int .u32 0, .int .u32 0, .int .u8 0, .int .i64 0, .int .u32 0, .int .u32 0, .slice none 0 0] 13 HS5.out size_note rfl rfl (by simp [Value.oneCell']) ?_) | fail)
              rw [← HW6.out]
              refine (readpacket_any tv t' w6 HT6.out HTL.out).mono ?_
              rintro e w7 ⟨v, bw, fc, rfl, hans, _, hob, hb7⟩
              have HFC := hid (ans_bad HNE.out hans)
              obtain ⟨a7, c7, hbv, _⟩ := hob.rd
              subst hbv
              have HX7 := hid ((hb7.block w.heap.size (by omega)).trans HX6.out)
              have HY7 := hid ((hb7.block (w.heap.size + 1) (by omega)).trans HY6.out)
              have HB7 := hid (HB6.out.trans (hb7.mono (by omega)))
              have hs7 := hb7.size
              clear hans hob hb7
              have HS7 := hid (heap_alloc_new w7 (.cells #[.int .u8 0, .int .u32 0, .int .u32 0, .int .u32 0, .int .u32 0, .bool false, .slice none 0 0] 38))
              have h78 : Below w7.heap.size w7 ((w7.alloc (.cells #[.int .u8 0, .int .u32 0, .int .u32 0, .int .u32 0, .int .u32 0, .bool false, .slice none 0 0] 38)).setRow w7.heap.size #[.int .u8 (v.n : Int), .int .u32 (v.e : Int), .int .u32 (v.l : Int), .int .u32 (v.s : Int), .int .u32 (v.a : Int), .bool v.p, .slice a7 v.b.length c7]) := ((Below.refl _ _).alloc (Nat.le_refl _) _).trans (setRow_below _ (Nat.le_refl _))
              have HX8 := hid ((h78.block w.heap.size (by omega)).trans HX7.out)
              have HY8 := hid ((h78.block (w.heap.size + 1) (by omega)).trans HY7.out)
              have HB8 := hid (HB7.out.trans (h78.mono (by omega)))
              have hs8 := h78.size
              clear h78
              have hec := HEC.out
              have hfc := HFC.out
              go_wp2_with (first | (refine store_st rfl 38 (.tmp 15) (.tmp 70) rfl w7.heap.size #[.int .u8 (v.n : Int), .int .u32 (v.e : Int), .int .u32 (v.l : Int), .int .u32 (v.s : Int), .int .u32 (v.a : Int), .bool v.p, .slice a7 v.b.length c7] rfl rfl #[.int .u8 0, .int .u32 0, .int .u32 0, .int .u32 0, .int .u32 0, .bool false, .slice none 0 0] 7 HS7.out size_packet rfl rfl (by simp [Value.oneCell']) ?_) | fail)
              go_roundw
              case rel => exact ⟨2, by omega, by omega, rfl, HX8.out, HY8.out, HB8.out, by omega⟩
              case measure => simp [intOf]
            · have hyr2 : y.right = false := by simpa using hyr
              go_wp2_with (first | (refine load_st rfl 38 (.tmp 5) rfl (w.heap.size + 1) rfl #[.int .u8 (y.n : Int), .int .u32 (y.e : Int), .int .u32 (y.l : Int), .int .u32 (y.s : Int), .int .u32 (y.a : Int), .bool y.p, .slice A2 100 C2] _ 7 HY1.out Try.underlying38 size_packet rfl ?_) | fail)
              refine (refpacket_no y A2 C2 100 HL2.out w1 hyr2).mono ?_
              clear HX1 HY1 HB1
              rintro e w2 ⟨rfl, hb1⟩
              have HX1 := hid ((hb1.block w.heap.size (by omega)).trans HX2.out)
              have HY1 := hid ((hb1.block (w.heap.size + 1) (by omega)).trans HY2.out)
              have HB1 := hid (HB2.out.trans (hb1.mono (by omega)))
              have hs3 := hb1.size
              go_wp2_with fail
              go_roundw
              case rel => exact ⟨2, by omega, by omega, rfl, HX1.out, HY1.out, HB1.out, by omega⟩
              case measure => simp [intOf]
        · obtain rfl : z = 2 := by omega
          go_wp2
          go_ret
          exact ⟨rfl, HB0.out⟩

set_option maxHeartbeats 1000000 in
theorem walk (v0 : Value) (v1 : Value) (a2 : Int) (a3 : Int) (w : World) (w0 : IsNote w v0) (w1 : IsPacket w v1) (w2 : (Lit.int .u16 a2).wf = true) (w3 : (Lit.int .u32 a3).wf = true) :
    Calls Try.prog 7 #[v0, v1, .int .u16 a2, .int .u32 a3] w fun e w' => e = .returned (.bool true) ∧ Below w.heap.size w w' := by
  obtain ⟨x, A1, L1, C1, zs1, rfl, hx, hr1⟩ := w0
  obtain ⟨y, A2, L2, C2, zs2, rfl, hy, hr2⟩ := w1
  obtain ⟨q1, rfl⟩ := Int.eq_ofNat_of_zero_le (show 0 ≤ a2 by have := bounds_u16 w2; omega)
  obtain ⟨q2, rfl⟩ := Int.eq_ofNat_of_zero_le (show 0 ≤ a3 by have := bounds_u32 w3; omega)
  have hq1 : q1 < 65536 := by have := bounds_u16 w2; omega
  have hq2 : q2 < 4294967296 := by have := bounds_u32 w3; omega
  obtain ⟨pat, hp0, hpe⟩ := odd_or q2 hq2
  have caps : ∀ (A : Option Addr) (L C : Nat) (zs : List Int), IsRow .u8 w A L C zs → L ≤ C ∧ C ≤ 9223372036854775807 := by
    intro A L C zs hr
    obtain ⟨l0, hl0, a0, c0, e0, h1, h2, _⟩ := hr.rd L (Nat.le_refl _)
    simp only [Value.slice.injEq] at e0
    obtain ⟨_, e1, e2⟩ := e0
    unfold maxLen at h2
    omega
  have c1 := caps _ _ _ _ hr1
  have c2 := caps _ _ _ _ hr2
  by_cases k1 : L1 ≤ 100 <;> by_cases k2 : L2 ≤ 100
  · obtain ⟨l, hl, hrd⟩ := hr1.rd L1 (Nat.le_refl _)
    obtain ⟨l2, hl2, hrd2⟩ := hr2.rd L2 (Nat.le_refl _)
    exact nb_ss { x with b := l } { y with b := l2 } A1 A2 C1 C2 L1 k1 L2 k2 q1 q2 pat w hq1 hq2 hp0 hpe c1.2 c2.2 c1.1 c2.1 hx hy hrd hrd2 hl.symm hl2.symm
  · obtain ⟨l, hl, hrd⟩ := hr1.rd L1 (Nat.le_refl _)
    obtain ⟨l2, hl2, hrd2⟩ := hr2.rd 100 (by omega)
    exact nb_sm { x with b := l } { y with b := l2 } A1 A2 C1 C2 L1 k1 L2 (by omega) q1 q2 pat w hq1 hq2 hp0 hpe c1.2 c2.2 c1.1 c2.1 hx hy hrd hrd2 hl.symm hl2.symm
  · obtain ⟨l, hl, hrd⟩ := hr1.rd 100 (by omega)
    obtain ⟨l2, hl2, hrd2⟩ := hr2.rd L2 (Nat.le_refl _)
    exact nb_ms { x with b := l } { y with b := l2 } A1 A2 C1 C2 L1 (by omega) L2 k2 q1 q2 pat w hq1 hq2 hp0 hpe c1.2 c2.2 c1.1 c2.1 hx hy hrd hrd2 hl.symm hl2.symm
  · obtain ⟨l, hl, hrd⟩ := hr1.rd 100 (by omega)
    obtain ⟨l2, hl2, hrd2⟩ := hr2.rd 100 (by omega)
    exact nb_mm { x with b := l } { y with b := l2 } A1 A2 C1 C2 L1 (by omega) L2 (by omega) q1 q2 pat w hq1 hq2 hp0 hpe c1.2 c2.2 c1.1 c2.1 hx hy hrd hrd2 hl.symm hl2.symm

/-! ### THE ROW's STEP -/
set_option maxRecDepth 100000 in
theorem lifted (os : Os) (started : os.Started) (H : Type) (enc : TypeId × Value → H) :
    ReturnsInHanded {} Try.checked os 7 .any (Rows.noteBurstsSpec.pre6 enc Try.prog Try.f7 Rows.noteBurstsRow.domain false) (Rows.noteBurstsSpec.post enc Try.prog Try.f7 false true false false) := by
  refine returnsInHanded_of_change (C := Try.checked) own started (by kernel_rfl) Try.func7
    (ChangeSpec.witness6 (enc := enc) (C := Try.checked) false ⟨#[], #[.agg #[.int .u8 0, .int .u8 0, .int .u32 0, .int .u32 0, .int .u32 0, .int .u32 0, .int .u32 0, .int .u32 0, .int .u8 0, .int .i64 0, .int .u32 0, .int .u32 0, .slice none 0 0], .agg #[.int .u8 0, .int .u32 0, .int .u32 0, .int .u32 0, .int .u32 0, .bool false, .slice none 0 0], .int .u16 0, .int .u32 0], []⟩ 8 (by kernel_rfl) (by kernel_rfl) (by kernel_rfl) (by kernel_rfl)) ?_
  intro W base args ds gs before hval0 hW hcnd _
  have hval : ∀ (j : Nat) t v, Try.f7.params[j]? = some t → args[j]? = some v → Value.okWide Try.prog W .any base t v := hval0
  have hW' := hW
  obtain ⟨p, q, hA0, hV, rfl, hfz, hnd⟩ := hW
  have hA : DataW.TrodAll enc Try.prog W 0 (fun _ => true) true Try.f7.params.toList args.toList ds p := hA0
  rw [Try.params7] at hA hval
  obtain ⟨v0, vs0, d0, ds0, p0, q0, hargs, rfl, rfl, h0, r0⟩ := trodAll_cons hA
  obtain ⟨v1, vs1, d1, ds1, p1, q1, rfl, rfl, rfl, h1, r1⟩ := trodAll_cons r0
  obtain ⟨v2, vs2, d2, ds2, p2, q2, rfl, rfl, rfl, h2, r2⟩ := trodAll_cons r1
  obtain ⟨v3, vs3, d3, ds3, p3, q3, rfl, rfl, rfl, h3, r3⟩ := trodAll_cons r2
  obtain ⟨rfl, rfl, rfl⟩ := trodAll_nil r3
  obtain rfl : args = #[v0, v1, v2, v3] := by cases args; simp_all
  obtain ⟨rfl, rfl⟩ := trodVars_none hV
  have k0 := h0
  have lt0 : ∀ x ∈ p0, x.block < W.heap.size := by obtain ⟨m, hm⟩ := k0; exact DataW.trod_lt m _ _ _ hm
  have k1 := h1
  have lt1 : ∀ x ∈ p1, x.block < W.heap.size := by obtain ⟨m, hm⟩ := k1; exact DataW.trod_lt m _ _ _ hm
  have k2 := h2
  have lt2 : ∀ x ∈ p2, x.block < W.heap.size := by obtain ⟨m, hm⟩ := k2; exact DataW.trod_lt m _ _ _ hm
  have k3 := h3
  have lt3 : ∀ x ∈ p3, x.block < W.heap.size := by obtain ⟨m, hm⟩ := k3; exact DataW.trod_lt m _ _ _ hm
  have w0 : IsNote W v0 := isNote_of (hval 0 25 v0 rfl rfl) h0
  have w1 : IsPacket W v1 := isPacket_of (hval 1 38 v1 rfl rfl) h1
  obtain ⟨a2, rfl, rfl, rfl, w2⟩ := open_int Try.underlying64 (hval 2 64 v2 rfl rfl) h2
  obtain ⟨a3, rfl, rfl, rfl, w3⟩ := open_int Try.underlying22 (hval 3 22 v3 rfl rfl) h3
  clear hA0 hval0
  refine (walk v0 v1 a2 a3 W w0 w1 w2 w3).mono fun e W' ⟨he, bel⟩ => ?_
  subst he
  exact ⟨_, rfl, _, _, _, [], _, [], hW', trodAll_mk1 (shut_bool Try.underlying4 _), (trodAll_cons_mk (Below.trod laidOut (by kernel_rfl) (of_decide_eq_true (by kernel_rfl)) k0 bel lt0) (trodAll_cons_mk (Below.trod laidOut (by kernel_rfl) (of_decide_eq_true (by kernel_rfl)) k1 bel lt1) (trodAll_cons_mk (Below.trod laidOut (by kernel_rfl) (of_decide_eq_true (by kernel_rfl)) k2 bel lt2) (trodAll_cons_mk (Below.trod laidOut (by kernel_rfl) (of_decide_eq_true (by kernel_rfl)) k3 bel lt3) trodAll_mk0)))), rfl, bel.frame _, fun h => by cases h⟩

theorem over : Rows.noteBurstsRow.holds Try.pinned (OpenSpec.ofChange Rows.noteBurstsSpec) :=
  OpenClaim.holds_of_wide 7 Try.f7 rfl rfl rfl rfl rfl rfl rfl ⟨rfl, rfl, rfl, rfl, rfl⟩ rfl rfl rfl rfl rfl (by kernel_rfl) Try.func7 (by kernel_rfl)
    (of_decide_eq_true (by kernel_rfl)) (by unfold Func.isWrapper; first | (rw [if_pos (by decide +kernel)]; kernel_rfl) | (rw [if_neg (by decide +kernel)]; exact ⟨rfl, rfl⟩))
    (fun os started H enc _ => lifted os started H enc)

/-- THE STATEMENT -/
theorem noteBursts_holds : Rows.NoteBurstsSaid := over
#print axioms noteBursts_holds
end Go.Proofs.Ytafpgglebjllbaa.noteBursts
