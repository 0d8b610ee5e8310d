/-
  What one client asks changes neither the reply that another one gets next nor its jobs, but those that are cancelled.
  (The frame behind the walk is the guide's shell, at these parameters.)
-/
import Derived.Test.YtahiaifdfgkemaaRows
import Derived.WalkKit
import Derived.Test.YtahiaifdfgkemaaJbYA
import Derived.ProofKit
import Derived.Deep.Cut
import Derived.Deep.CutRange
import Derived.Deep.CutBlock
import Derived.Deep.Grids
import Derived.OpenShut
import Derived.ShutString
import Derived.ChangeOld
import Derived.Below
namespace Go.Proofs.Ytahiaifdfgkemaa.jobsApart
open Go.ChangeShapes Go.WideShapes Go.ChangeAt Go.RowKit
open Go.ChangeMaps (open_string shut_string)
set_option linter.unusedVariables false

theorem own : ownKnob Try.prog.godebug = none := by kernel_rfl
theorem laidOut : laidOutB Try.prog = true := by kernel_rfl

set_option linter.unusedSimpArgs false
theorem do_t (w : World) (lo b : Nat) (va vo : Value) (t t' : Tb) (q : Note.Q) (r : Note.R) (ok : Bool) (h : TbAt w lo b va vo t) (hv : t.over.length ≤ 64) (hl : t.last < 100000) (hq : q.wf) (e : t.do q = ((r, ok), t')) :
    Calls Try.prog 9 #[.pointer (some ⟨b, 0, none⟩), .agg #[.int .u8 (q.cl : Int), .int .u32 (q.s : Int), .int .u8 (q.k : Int), .int .u8 (q.t : Int), .int .i64 q.kk, .int .i64 q.w, .int .u32 (q.j : Int)]] w fun e w' => e = .returned (.tuple #[.agg #[.int .u8 (r.cl : Int), .int .u32 (r.s : Int), .int .i64 r.e, .int .u32 (r.j : Int), .int .u8 (r.st : Int), .int .i64 r.c], .bool ok]) ∧ ∃ va' vo', Stp w lo b va vo w' va' vo' t' := by
  have h1 := do_any w lo b va vo t q h hv hl hq
  rw [e] at h1
  exact h1
structure JrAt (x wr : World) (b : Nat) (va vo : Value) (t : Tb) : Prop where
  tb : TbAt wr b b va vo t
  ok : t.ok
  fair : t.fair
  last : t.last ≤ 30
  bel : Below x.heap.size x wr
  blo : x.heap.size ≤ b
section
variable {x wr w2 : World} {b : Nat} {va vo va' vo' : Value} {t t' : Tb}
theorem JrAt.below (h : JrAt x wr b va vo t) (hb : Below wr.heap.size wr w2) : JrAt x w2 b va vo t := ⟨h.tb.below hb, h.ok, h.fair, h.last, h.bel.trans (hb.mono h.bel.size), h.blo⟩
theorem JrAt.step (h : JrAt x wr b va vo t) (hs : Stp wr b b va vo w2 va' vo' t') (ho : t'.ok) (hf : t'.fair) (hl : t'.last ≤ 30) : JrAt x w2 b va' vo' t' := ⟨hs.tb, ho, hf, hl, hs.bel h.tb h.bel h.blo h.bel.size, h.blo⟩
theorem JrAt.rs (h : JrAt x wr b va vo t) : ∀ r ∈ t.rs, r.s ≤ 4294967295 ∧ r.j ≤ 4294967295 := fun r hr => by
  obtain ⟨c, hc⟩ := List.getElem?_of_mem hr
  exact (h.fair.rs c r hc).2.2
end
set_option maxRecDepth 100000 in
set_option maxHeartbeats 8000000 in
theorem walk (a0 : Option Addr) (len0 cap0 : Nat) (v1 : Value) (w : World) (w0 : IsOps16 w a0 len0 cap0) (w1 : IsRequest w v1) :
    Calls Try.prog 5 #[.slice a0 len0 cap0, v1] w fun e w' => e = .returned (.bool true) ∧ Below w.heap.size w w' := by
  obtain ⟨Q, rfl, hQw, -⟩ := w1
  obtain ⟨hlc, hcm⟩ := w0.bounds
  have HQW := hid hQw
  obtain ⟨x0, hx0⟩ : ∃ x0, x0 = w.alloc (.cells #[.int .u8 (Q.cl : Int), .int .u32 (Q.s : Int), .int .u8 (Q.k : Int), .int .u8 (Q.t : Int), .int .i64 Q.kk, .int .i64 Q.w, .int .u32 (Q.j : Int)] 33) := ⟨_, rfl⟩
  obtain ⟨p0, hp0⟩ : ∃ p0, p0 = w.heap.size := ⟨_, rfl⟩
  have hbx0 : Below w.heap.size w x0 := by rw [hx0]; exact (Below.refl _ _).alloc (Nat.le_refl _) _
  have hq0 : x0.heap[p0]? = some (.cells #[.int .u8 (Q.cl : Int), .int .u32 (Q.s : Int), .int .u8 (Q.k : Int), .int .u8 (Q.t : Int), .int .i64 Q.kk, .int .i64 Q.w, .int .u32 (Q.j : Int)] 33 (0, 0)) := by rw [hx0, hp0]; exact heap_alloc_new w _
  have HBX0 := hid hbx0
  have HQ0 := hid hq0
  have hpl := (Array.getElem?_eq_some_iff.1 hq0).1
  have HOPS := hid w0
  clear w0 hQw hbx0 hq0
  go_enter Try.func5, Try.ntmps5
  go_upto_region 1 with fail
  rw [← hx0]
  simp only [← hp0]
  clear hx0 hp0
  go_wp2_with fail
  refine (awake16_any x0).mono ?_
  rintro e x1 ⟨rfl, hb1⟩
  have HB1 := hid hb1
  clear hb1
  go_wp2_with fail
  refine (jnew_any 4 x1 (by omega) (by omega)).mono ?_
  rintro e x2 ⟨rfl, ht, hb⟩
  obtain ⟨b, hbb⟩ : ∃ b, b = x1.heap.size := ⟨_, rfl⟩
  rw [← hbb] at ht
  simp only [← hbb]
  have HJ := hid (show JrAt x0 x2 b (.slice none 0 0) (.slice none 0 0) (newTb 4) from ⟨ht, ok_new 4, fair_new 4, Nat.zero_le _, HB1.out.trans (hb.mono HB1.out.size), by rw [hbb]; exact HB1.out.size⟩)
  clear ht hb hbb HB1
  go_wp2_with fail
  go_loopw [32] (fun vi wr => ∃ (k : Nat) (va vo : Value) (t : Tb), k ≤ len0 ∧ vi = .int .i64 k ∧ t.last ≤ k ∧ JrAt x0 wr b va vo t) (fun i _ => len0 - (intOf i).toNat)
  case atStart => exact ⟨0, _, _, newTb 4, Nat.zero_le _, rfl, Nat.zero_le _, HJ.out⟩
  case round =>
    obtain ⟨k, va, vo, t, hk, rfl, hlk, hj⟩ := hrel
    have HJ := hid hj
    have HLK := hid hlk
    clear hj hlk
    by_cases hlt : k < len0
    · have hki : (k : Int) < (len0 : Int) := by omega
      obtain ⟨sb, off, d, q, nn, rfl, hd, hqw, hsb, c0, c1, c2, c3, c4, c5, c6, c7, c8⟩ := HOPS.out.at (HBX0.out.trans (HJ.out.bel.mono HBX0.out.size)) hlt
      have HQ := hid hqw
      clear hqw
      obtain ⟨wm, hwm⟩ : ∃ wm, wm = wr.alloc (.cells #[.int .u8 (d : Int), .int .u8 (q.cl : Int), .int .u32 (q.s : Int), .int .u8 (q.k : Int), .int .u8 (q.t : Int), .int .i64 q.kk, .int .i64 q.w, .int .u32 (q.j : Int), .int .i64 nn] 35) := ⟨_, rfl⟩
      obtain ⟨p, hp⟩ : ∃ p, p = wr.heap.size := ⟨_, rfl⟩
      have hbm : Below wr.heap.size wr wm := by rw [hwm]; exact (Below.refl _ _).alloc (Nat.le_refl _) _
      have hxm : wm.heap[p]? = some (.cells #[.int .u8 (d : Int), .int .u8 (q.cl : Int), .int .u32 (q.s : Int), .int .u8 (q.k : Int), .int .u8 (q.t : Int), .int .i64 q.kk, .int .i64 q.w, .int .u32 (q.j : Int), .int .i64 nn] 35 (0, 0)) := by rw [hwm, hp]; exact heap_alloc_new wr _
      have HJM := hid (HJ.out.below hbm)
      have HXM := hid hxm
      go_upto_region 7 with fail
      rw [← hwm]
      simp only [← hp]
      clear hwm hp hbm c0 c1 c2 c3 c4 c5 c6 c7 c8
      have z1 : wm.cell? ⟨p, 1, none⟩ = some (.int .u8 (q.cl : Int)) := (cell_of_row _ _ _ _ _ _ hxm).trans rfl
      have z2 : wm.cell? ⟨p, 2, none⟩ = some (.int .u32 (q.s : Int)) := (cell_of_row _ _ _ _ _ _ hxm).trans rfl
      have z3 : wm.cell? ⟨p, 3, none⟩ = some (.int .u8 (q.k : Int)) := (cell_of_row _ _ _ _ _ _ hxm).trans rfl
      have z4 : wm.cell? ⟨p, 4, none⟩ = some (.int .u8 (q.t : Int)) := (cell_of_row _ _ _ _ _ _ hxm).trans rfl
      have z5 : wm.cell? ⟨p, 5, none⟩ = some (.int .i64 q.kk) := (cell_of_row _ _ _ _ _ _ hxm).trans rfl
      have z6 : wm.cell? ⟨p, 6, none⟩ = some (.int .i64 q.w) := (cell_of_row _ _ _ _ _ _ hxm).trans rfl
      have z7 : wm.cell? ⟨p, 7, none⟩ = some (.int .u32 (q.j : Int)) := (cell_of_row _ _ _ _ _ _ hxm).trans rfl
      clear hxm
      by_cases h40 : k < 30
      · have h4i : decide ((k : Int) < 30) = true := decide_eq_true (by omega)
        have h4j : (k : Int) < 30 := by omega
        obtain ⟨⟨⟨r, dn⟩, t1⟩, hdo⟩ : ∃ x, x = t.do q := ⟨_, rfl⟩
        obtain ⟨hnx, -, -⟩ := next_do HJM.out.ok q
        obtain ⟨hfd, -, -⟩ := fair_do HJM.out.ok HJM.out.fair (by have := HJM.out.last; omega) q HQ.out
        rw [← hdo] at hnx hfd
        dsimp only at hnx hfd
        have HL1 := hid (show t1.last ≤ k + 1 by have := HLK.out; rcases hnx.last with e | e <;> omega)
        have HNX := hid hnx
        have HFD := hid hfd
        have HDO := hid (do_t wm b b va vo t t1 q r dn HJM.out.tb HJM.out.ok.o64 (by have := HJM.out.last; omega) HQ.out hdo.symm)
        clear hnx hfd hdo
        go_wp2_with fail
        refine HDO.out.mono ?_
        rintro e w5 ⟨rfl, va1, vo1, hs⟩
        have HJ5 := hid (HJM.out.step hs HNX.out.ok HFD.out (by have := HL1.out; omega))
        clear hs
        go_wp2_with fail
        go_roundw
        case rel => exact ⟨k + 1, _, _, t1, hlt, by go_num, HL1.out, HJ5.out⟩
        case measure => simp [intOf]; omega
      · have h4i : decide ((k : Int) < 30) = false := decide_eq_false (by omega)
        have h4j : ¬ (k : Int) < 30 := by omega
        go_wp2_with fail
        go_roundw
        case rel => exact ⟨k + 1, _, _, t, hlt, by go_num, by have := HLK.out; omega, HJM.out⟩
        case measure => simp [intOf]; omega
    · have hki : ¬ (k : Int) < (len0 : Int) := by omega
      go_wp2_with fail
      refine (jactive_any wr b b va vo t HJ.out.tb).mono ?_
      rintro e w3 ⟨vc, rfl, hoc, hb3⟩
      have HJ3 := hid (HJ.out.below hb3)
      have HOC := hid hoc
      have hact := HJ3.out.ok.a64
      clear hoc hb3
      go_wp2_with fail
      refine (copy_any w3 b b va vo t HJ3.out.tb).mono ?_
      rintro e w4 ⟨va2, vo2, rfl, ht2, hb4⟩
      obtain ⟨b2, hb2⟩ : ∃ b2, b2 = w3.heap.size := ⟨_, rfl⟩
      rw [← hb2] at ht2
      simp only [← hb2]
      have HJ4 := hid (HJ3.out.below hb4)
      have HJU := hid (show JrAt x0 w4 b2 va2 vo2 t from ⟨ht2, HJ3.out.ok, HJ3.out.fair, HJ3.out.last, HJ4.out.bel, by rw [hb2]; exact HJ3.out.bel.size⟩)
      have HOC4 := hid (owns_below HOC.out hb4)
      have HB2 := hid hb2
      have HBW4 := hid (show Below b2 w4 w4 from Below.refl _ _)
      have hq4 := (HJ4.out.bel.block p0 hpl).trans HQ0.out
      obtain ⟨⟨⟨r0, dn⟩, t1⟩, hdo⟩ : ∃ x, x = t.do Q := ⟨_, rfl⟩
      obtain ⟨hnx, -, -⟩ := next_do HJ4.out.ok Q
      have hrs := fun c (hc : c ≠ Q.cl) => do_rs HJ4.out.ok Q (c := c) hc
      have hact1 := fun x (hx : x ∈ t.act) => act_do HJ4.out.ok Q hx
      rw [← hdo] at hnx hrs hact1
      dsimp only at hnx hrs hact1
      have HNX := hid hnx
      have HRS := hid hrs
      have HACT := hid hact1
      have HDO := hid (do_t w4 b2 b2 va2 vo2 t t1 Q r0 dn HJU.out.tb HJU.out.ok.o64 (by have := HJU.out.last; omega) HQW.out hdo.symm)
      have y0 : w4.cell? ⟨p0, 0, none⟩ = some (.int .u8 (Q.cl : Int)) := (cell_of_row _ _ _ _ _ _ hq4).trans rfl
      have y1 : w4.cell? ⟨p0, 1, none⟩ = some (.int .u32 (Q.s : Int)) := (cell_of_row _ _ _ _ _ _ hq4).trans rfl
      have y2 : w4.cell? ⟨p0, 2, none⟩ = some (.int .u8 (Q.k : Int)) := (cell_of_row _ _ _ _ _ _ hq4).trans rfl
      have y3 : w4.cell? ⟨p0, 3, none⟩ = some (.int .u8 (Q.t : Int)) := (cell_of_row _ _ _ _ _ _ hq4).trans rfl
      have y4 : w4.cell? ⟨p0, 4, none⟩ = some (.int .i64 Q.kk) := (cell_of_row _ _ _ _ _ _ hq4).trans rfl
      have y5 : w4.cell? ⟨p0, 5, none⟩ = some (.int .i64 Q.w) := (cell_of_row _ _ _ _ _ _ hq4).trans rfl
      have y6 : w4.cell? ⟨p0, 6, none⟩ = some (.int .u32 (Q.j : Int)) := (cell_of_row _ _ _ _ _ _ hq4).trans rfl
      clear hnx hrs hact1 hdo hq4 ht2 hb2 hb4
      go_wp2_with fail
      refine HDO.out.mono ?_
      rintro e w5 ⟨rfl, va3, vo3, hs⟩
      -- what lies below the copy stays
      have HB5 := hid (show Below b2 w4 w5 from hs.bel HJU.out.tb HBW4.out (Nat.le_refl _) (by have := HJU.out.tb.lt; omega))
      have HU5 := hid hs.tb
      have HT5 := hid (show TbAt w5 b b va vo t from HJ4.out.tb.keeps hs.k (fun i hi hTk => by have h1 := (HJ3.out.tb.tk_lt hi).2; have h2 := (HJU.out.tb.tk_lt hTk).1; have := HB2.out; omega))
      have HOC5 := hid (show OwnJ w5 wr.heap.size vc t.act from owns_by HOC4.out fun i hi => hs.k.block i (World.ownsRow.lt HOC4.out i hi).2 (fun hTk => by have h1 := (World.ownsRow.lt HOC.out i hi).2; have h2 := (HJU.out.tb.tk_lt hTk).1; have := HB2.out; omega))
      have HBX5 := hid (show Below x0.heap.size x0 w5 from hs.bel HJU.out.tb HJ4.out.bel (by have := HJ3.out.bel.size; have := HB2.out; omega) HJ4.out.bel.size)
      have HLU := hid (show t1.last ≤ 31 by have := HJ4.out.last; rcases HNX.out.last with e | e <;> omega)
      have HLT := hid HJ4.out.last
      have HOKT := hid HJ4.out.ok
      obtain ⟨ac, cc, rfl, -, -⟩ := owns_slice HOC5.out
      clear hs y0 y1 y2 y3 y4 y5 y6 HDO HJU HOC4 HBW4 HB5 HOC HJ4
      go_wp2_with fail
      go_loopw [53] (fun vi wz => ∃ j : Nat, j ≤ t.act.length ∧ vi = .int .i64 j ∧ Below w5.heap.size w5 wz) (fun i _ => t.act.length - (intOf i).toNat)
      case atStart => exact ⟨0, Nat.zero_le _, rfl, Below.refl _ _⟩
      case round =>
        obtain ⟨j, hj, rfl, hbz⟩ := hrel
        obtain ⟨wz, hwz⟩ : ∃ wz, wz = wr := ⟨_, rfl⟩
        subst hwz
        have HBZ := hid hbz
        clear hbz
        by_cases hjl : j < t.act.length
        · have hji : (j : Int) < (t.act.length : Int) := by omega
          obtain ⟨x, hx⟩ : ∃ x, t.act[j]? = some x := ⟨_, List.getElem?_eq_getElem hjl⟩
          obtain ⟨jb, jo, jc, ev, hjc1, hjc2, hjb, i0, i1, i2, i3, i4, i5⟩ := (OwnJ.rd (owns_below HOC5.out HBZ.out)).item hx
          simp only [Value.slice.injEq] at ev
          obtain ⟨rfl, -, rfl⟩ := ev
          have HMEM := hid (List.mem_of_getElem? hx)
          obtain ⟨w9, hw9⟩ : ∃ w9, w9 = wz.alloc (.cells #[.int .u32 (x.1 : Int), .int .u8 (x.2.1 : Int), .int .i64 x.2.2.1, .int .i64 x.2.2.2.1, .int .u8 (x.2.2.2.2.1 : Int), .int .i64 x.2.2.2.2.2] 44) := ⟨_, rfl⟩
          obtain ⟨p, hp⟩ : ∃ p, p = wz.heap.size := ⟨_, rfl⟩
          have hb9 : Below wz.heap.size wz w9 := by rw [hw9]; exact (Below.refl _ _).alloc (Nat.le_refl _) _
          have hx9 : w9.heap[p]? = some (.cells #[.int .u32 (x.1 : Int), .int .u8 (x.2.1 : Int), .int .i64 x.2.2.1, .int .i64 x.2.2.2.1, .int .u8 (x.2.2.2.2.1 : Int), .int .i64 x.2.2.2.2.2] 44 (0, 0)) := by rw [hw9, hp]; exact heap_alloc_new wz _
          have HX9 := hid hx9
          have HB9 := hid (HBZ.out.trans (hb9.mono HBZ.out.size))
          have b0 : w9.cell? ⟨p, 0, none⟩ = some (.int .u32 (x.1 : Int)) := (cell_of_row _ _ _ _ _ _ hx9).trans rfl
          have HU9 := hid (HU5.out.below HB9.out)
          clear hx hb9 hx9
          go_upto_region 16 with fail
          rw [← hw9]
          simp only [← hp]
          clear hw9 hp i0 i1 i2 i3 i4 i5
          obtain ⟨⟨x', ok⟩, hjob⟩ : ∃ y, y = t1.job x.1 := ⟨_, rfl⟩
          have hJ := job_any w9 b2 b2 x.1 va3 vo3 t1 HU9.out
          rw [← hjob] at hJ
          have HJB := hid hJ
          have HCASE := hid (show ok = true ∧ (x' = x ∨ (Q.k = 2 ∧ Q.j = x.1)) from by
            rcases HACT.out x HMEM.out with h | ⟨h1, h2, h3⟩
            · have h4 := job_mem HNX.out.ok h
              rw [← hjob] at h4
              simp only [Prod.mk.injEq] at h4
              exact ⟨h4.2, .inl h4.1⟩
            · rw [← hjob] at h3
              exact ⟨h3, .inr ⟨h1, h2⟩⟩)
          clear hJ hjob
          go_wp2_with fail
          refine HJB.out.mono ?_
          rintro e w10 ⟨rfl, hb10⟩
          have HB10 := hid (HB9.out.trans (hb10.mono HB9.out.size))
          have hx10 := (hb10.block p (Array.getElem?_eq_some_iff.1 HX9.out).1).trans HX9.out
          obtain ⟨w11, hw11⟩ : ∃ w11, w11 = w10.alloc (.cells #[.int .u32 (x'.1 : Int), .int .u8 (x'.2.1 : Int), .int .i64 x'.2.2.1, .int .i64 x'.2.2.2.1, .int .u8 (x'.2.2.2.2.1 : Int), .int .i64 x'.2.2.2.2.2] 44) := ⟨_, rfl⟩
          obtain ⟨p2, hp2⟩ : ∃ p2, p2 = w10.heap.size := ⟨_, rfl⟩
          have hb11 : Below w10.heap.size w10 w11 := by rw [hw11]; exact (Below.refl _ _).alloc (Nat.le_refl _) _
          have hx11 : w11.heap[p2]? = some (.cells #[.int .u32 (x'.1 : Int), .int .u8 (x'.2.1 : Int), .int .i64 x'.2.2.1, .int .i64 x'.2.2.2.1, .int .u8 (x'.2.2.2.2.1 : Int), .int .i64 x'.2.2.2.2.2] 44 (0, 0)) := by rw [hw11, hp2]; exact heap_alloc_new w10 _
          have hy11 := (hb11.block p (Array.getElem?_eq_some_iff.1 hx10).1).trans hx10
          have HB11 := hid (HB10.out.trans (hb11.mono HB10.out.size))
          have hq11 := ((HBX5.out.trans (HB11.out.mono HBX5.out.size)).block p0 hpl).trans HQ0.out
          have q2 : w11.cell? ⟨p0, 2, none⟩ = some (.int .u8 (Q.k : Int)) := (cell_of_row _ _ _ _ _ _ hq11).trans rfl
          have q6 : w11.cell? ⟨p0, 6, none⟩ = some (.int .u32 (Q.j : Int)) := (cell_of_row _ _ _ _ _ _ hq11).trans rfl
          have a0 : w11.cell? ⟨p2, 0, none⟩ = some (.int .u32 (x'.1 : Int)) := (cell_of_row _ _ _ _ _ _ hx11).trans rfl
          have a1 : w11.cell? ⟨p2, 1, none⟩ = some (.int .u8 (x'.2.1 : Int)) := (cell_of_row _ _ _ _ _ _ hx11).trans rfl
          have a2 : w11.cell? ⟨p2, 2, none⟩ = some (.int .i64 x'.2.2.1) := (cell_of_row _ _ _ _ _ _ hx11).trans rfl
          have a3 : w11.cell? ⟨p2, 3, none⟩ = some (.int .i64 x'.2.2.2.1) := (cell_of_row _ _ _ _ _ _ hx11).trans rfl
          have a4 : w11.cell? ⟨p2, 4, none⟩ = some (.int .u8 (x'.2.2.2.2.1 : Int)) := (cell_of_row _ _ _ _ _ _ hx11).trans rfl
          have a5 : w11.cell? ⟨p2, 5, none⟩ = some (.int .i64 x'.2.2.2.2.2) := (cell_of_row _ _ _ _ _ _ hx11).trans rfl
          have d0 : w11.cell? ⟨p, 0, none⟩ = some (.int .u32 (x.1 : Int)) := (cell_of_row _ _ _ _ _ _ hy11).trans rfl
          have d1 : w11.cell? ⟨p, 1, none⟩ = some (.int .u8 (x.2.1 : Int)) := (cell_of_row _ _ _ _ _ _ hy11).trans rfl
          have d2 : w11.cell? ⟨p, 2, none⟩ = some (.int .i64 x.2.2.1) := (cell_of_row _ _ _ _ _ _ hy11).trans rfl
          have d3 : w11.cell? ⟨p, 3, none⟩ = some (.int .i64 x.2.2.2.1) := (cell_of_row _ _ _ _ _ _ hy11).trans rfl
          have d4 : w11.cell? ⟨p, 4, none⟩ = some (.int .u8 (x.2.2.2.2.1 : Int)) := (cell_of_row _ _ _ _ _ _ hy11).trans rfl
          have d5 : w11.cell? ⟨p, 5, none⟩ = some (.int .i64 x.2.2.2.2.2) := (cell_of_row _ _ _ _ _ _ hy11).trans rfl
          unfold jv
          go_upto_region 17 with fail
          rw [← hw11]
          simp only [← hp2]
          clear hw11 hp2 hb11 hx11 hy11 hq11 hx10 hb10 b0
          obtain ⟨rfl, hc⟩ := HCASE.out
          rcases hc with rfl | ⟨hk2, hjx⟩
          · clear HCASE
            obtain ⟨x0', x1', x2', x3', x4', x5'⟩ := x'
            dsimp only at a0 a1 a2 a3 a4 a5 d0 d1 d2 d3 d4 d5
            go_wp2_with fail
            go_roundw
            case rel => exact ⟨j + 1, hjl, by go_num, HB11.out⟩
            case measure => simp [intOf]; omega
          · rw [hk2] at q2
            rw [hjx] at q6
            clear HCASE hk2 hjx
            obtain ⟨x0', x1', x2', x3', x4', x5'⟩ := x'
            obtain ⟨z0', z1', z2', z3', z4', z5'⟩ := x
            dsimp only at a0 a1 a2 a3 a4 a5 d0 d1 d2 d3 d4 d5 q6
            go_wp2_with fail
            all_goals (go_roundw; (case rel => exact ⟨j + 1, hjl, by go_num, HB11.out⟩); (case measure => simp [intOf]; omega))
        · have hji : ¬ (j : Int) < (t.act.length : Int) := by omega
          have HTZ := hid (HT5.out.below HBZ.out)
          have HUZ := hid (HU5.out.below HBZ.out)
          have HBXZ := hid (HBX5.out.trans (HBZ.out.mono HBX5.out.size))
          clear HT5 HU5 HOC5
          go_wp2_with fail
          go_loopw [85] (fun vi wy => ∃ c : Nat, c ≤ 8 ∧ vi = .int .u8 c ∧ Below wz.heap.size wz wy) (fun i _ => 8 - (intOf i).toNat)
          case atStart => exact ⟨0, Nat.zero_le _, rfl, Below.refl _ _⟩
          case round =>
            obtain ⟨c, hc, rfl, hby⟩ := hrel
            obtain ⟨wy, hwy⟩ : ∃ wy, wy = wr := ⟨_, rfl⟩
            subst hwy
            have HBY := hid hby
            have hqy := ((HBXZ.out.trans (hby.mono HBXZ.out.size)).block p0 hpl).trans HQ0.out
            have q0 : wy.cell? ⟨p0, 0, none⟩ = some (.int .u8 (Q.cl : Int)) := (cell_of_row _ _ _ _ _ _ hqy).trans rfl
            clear hby hqy
            by_cases hc8 : c < 8
            · have hci : (c : Int) < 8 := by omega
              by_cases hcq : c = Q.cl
              · have d1 : decide ((c : Int) = (Q.cl : Int)) = true := decide_eq_true (by omega)
                have d2 : ((c : Int) == (Q.cl : Int)) = true := by simp; omega
                rw [← hcq] at q0
                have hcq := hid hcq
                go_wp2_with fail
                go_roundw
                case rel => exact ⟨c + 1, hc8, by go_num, HBY.out⟩
                case measure => simp [intOf]; omega
              · have d1 : decide ((c : Int) = (Q.cl : Int)) = false := decide_eq_false (by omega)
                have d2 : ((c : Int) == (Q.cl : Int)) = false := by simp; omega
                have HRC := hid (HRS.out c hcq)
                obtain ⟨wx, hwx⟩ : ∃ wx, wx = wy.alloc (.cells #[.int .u32 1, .int .u32 2, .int .u32 3, .int .u32 9] 30) := ⟨_, rfl⟩
                obtain ⟨ps, hps⟩ : ∃ ps, ps = wy.heap.size := ⟨_, rfl⟩
                have hbx : Below wy.heap.size wy wx := by rw [hwx]; exact (Below.refl _ _).alloc (Nat.le_refl _) _
                have hsx : wx.heap[ps]? = some (.cells #[.int .u32 1, .int .u32 2, .int .u32 3, .int .u32 9] 30 (0, 0)) := by rw [hwx, hps]; exact heap_alloc_new wy _
                have HSX := hid hsx
                have hpsl := (Array.getElem?_eq_some_iff.1 hsx).1
                have HBXX := hid (HBY.out.trans (hbx.mono HBY.out.size))
                clear hbx hsx
                go_wp2_with fail
                rw [← hwx]
                simp only [← hps]
                clear hwx hps
                go_loopw [94] (fun vi wv => ∃ i : Nat, i ≤ 4 ∧ vi = .int .i64 i ∧ Below wx.heap.size wx wv) (fun i _ => 4 - (intOf i).toNat)
                case atStart => exact ⟨0, Nat.zero_le _, rfl, Below.refl _ _⟩
                case round =>
                  obtain ⟨i, hi, rfl, hbv⟩ := hrel
                  obtain ⟨wv, hwv⟩ : ∃ wv, wv = wr := ⟨_, rfl⟩
                  subst hwv
                  have HBV := hid hbv
                  have hsv := (hbv.block ps hpsl).trans HSX.out
                  clear hbv
                  by_cases hi4 : i < 4
                  · have hii : (i : Int) < 4 := by omega
                    obtain ⟨s, hs9, hsc⟩ : ∃ s : Nat, s ≤ 9 ∧ wv.cell? ⟨ps, i, none⟩ = some (.int .u32 (s : Int)) := by
                      rw [cell_of_row _ _ _ _ _ _ hsv]
                      match i, hi4 with
                      | 0, _ => exact ⟨1, by omega, rfl⟩
                      | 1, _ => exact ⟨2, by omega, rfl⟩
                      | 2, _ => exact ⟨3, by omega, rfl⟩
                      | 3, _ => exact ⟨9, by omega, rfl⟩
                    have HTV := hid (HTZ.out.below (HBXX.out.trans (HBV.out.mono HBXX.out.size)))
                    have HUV := hid (HUZ.out.below (HBXX.out.trans (HBV.out.mono HBXX.out.size)))
                    have HDT := hid (do77 HOKT.out (by have := HLT.out; omega) (s := s) hc8)
                    have HDU := hid (do77 HNX.out.ok (by have := HLU.out; omega) (s := s) hc8)
                    rw [HRC.out] at HDU
                    obtain ⟨r, hr⟩ : ∃ r, r = rep77 c s (t.rs.getD c Note.R.zero) := ⟨_, rfl⟩
                    rw [← hr] at HDT HDU
                    have hqw : (⟨c, s, 2, 0, 0, 0, 77⟩ : Note.Q).wf := ⟨by show c < 256; omega, by show s < 4294967296; omega, by show 2 < 256; omega, by show 0 < 256; omega, by show _ ≤ (0 : Int); omega, by show (0 : Int) < _; omega, by show _ ≤ (0 : Int); omega, by show (0 : Int) < _; omega, by show 77 < 4294967296; omega⟩
                    have HQ77 := hid hqw
                    clear hsv hr hqw
                    go_wp2_with fail
                    refine (copy_any wv b b va vo t HTV.out).mono ?_
                    rintro e v1 ⟨ma, mo, rfl, hta, hba⟩
                    obtain ⟨ga, hga⟩ : ∃ ga, ga = wv.heap.size := ⟨_, rfl⟩
                    rw [← hga] at hta
                    simp only [← hga]
                    have HTA := hid hta
                    have HBA := hid hba
                    have HUA := hid (HUV.out.below hba)
                    have HGA := hid hga
                    clear hta hba hga
                    go_wp2_with fail
                    refine (copy_any v1 b2 b2 va3 vo3 t1 HUA.out).mono ?_
                    rintro e v2 ⟨na, no, rfl, htb, hbb⟩
                    obtain ⟨gb, hgb⟩ : ∃ gb, gb = v1.heap.size := ⟨_, rfl⟩
                    rw [← hgb] at htb
                    simp only [← hgb]
                    have HTB := hid htb
                    have HTA2 := hid (HTA.out.below hbb)
                    have HGB := hid hgb
                    have HGBL := hid (show wv.heap.size ≤ gb by rw [hgb]; exact HBA.out.size)
                    have HLTA := hid (show ∀ k, Tk ga ma mo k → k < gb from fun k hk => by rw [hgb]; exact (HTA.out.tk_lt hk).2)
                    have HBB := hid (show Below wv.heap.size wv v2 from HBA.out.trans (hbb.mono HBA.out.size))
                    clear htb hbb hgb HTA HUA HBA
                    have HDA := hid (show Calls Try.prog 9 #[.pointer (some ⟨ga, 0, none⟩), .agg #[.int .u8 (c : Int), .int .u32 (s : Int), .int .u8 2, .int .u8 0, .int .i64 0, .int .i64 0, .int .u32 77]] v2 fun e w' => e = .returned (.tuple #[.agg #[.int .u8 (r.cl : Int), .int .u32 (r.s : Int), .int .i64 r.e, .int .u32 (r.j : Int), .int .u8 (r.st : Int), .int .i64 r.c], .bool false]) ∧ ∃ va' vo', Stp v2 ga ga ma mo w' va' vo' t from do_t v2 ga ga ma mo t t ⟨c, s, 2, 0, 0, 0, 77⟩ r false HTA2.out HOKT.out.o64 (by have := HLT.out; omega) HQ77.out HDT.out)
                    go_wp2_with fail
                    refine HDA.out.mono ?_
                    rintro e v3 ⟨rfl, ma2, mo2, hsa⟩
                    have HBC := hid (show Below wv.heap.size wv v3 from hsa.bel HTA2.out HBB.out (by rw [← HGA.out]; exact Nat.le_refl _) HBB.out.size)
                    have HTB3 := hid (show TbAt v3 gb gb na no t1 from HTB.out.keeps hsa.k (fun k hk hTk => by have h1 := (HTB.out.tk_lt hk).1; have h2 := HLTA.out k hTk; omega))
                    clear hsa HDA
                    obtain ⟨v4, hv4⟩ : ∃ v4, v4 = v3.alloc (.cells #[.int .u8 (r.cl : Int), .int .u32 (r.s : Int), .int .i64 r.e, .int .u32 (r.j : Int), .int .u8 (r.st : Int), .int .i64 r.c] 37) := ⟨_, rfl⟩
                    obtain ⟨p3, hp3⟩ : ∃ p3, p3 = v3.heap.size := ⟨_, rfl⟩
                    have hb4 : Below v3.heap.size v3 v4 := by rw [hv4]; exact (Below.refl _ _).alloc (Nat.le_refl _) _
                    have hx4 : v4.heap[p3]? = some (.cells #[.int .u8 (r.cl : Int), .int .u32 (r.s : Int), .int .i64 r.e, .int .u32 (r.j : Int), .int .u8 (r.st : Int), .int .i64 r.c] 37 (0, 0)) := by rw [hv4, hp3]; exact heap_alloc_new v3 _
                    have HX4 := hid hx4
                    have HBD := hid (HBC.out.trans (hb4.mono HBC.out.size))
                    have HTB4 := hid (HTB3.out.below hb4)
                    have HNK := hid (show ¬ Tk gb na no p3 from fun hTk => by have := (HTB3.out.tk_lt hTk).2; omega)
                    clear hb4 hx4
                    have HDB := hid (show Calls Try.prog 9 #[.pointer (some ⟨gb, 0, none⟩), .agg #[.int .u8 (c : Int), .int .u32 (s : Int), .int .u8 2, .int .u8 0, .int .i64 0, .int .i64 0, .int .u32 77]] v4 fun e w' => e = .returned (.tuple #[.agg #[.int .u8 (r.cl : Int), .int .u32 (r.s : Int), .int .i64 r.e, .int .u32 (r.j : Int), .int .u8 (r.st : Int), .int .i64 r.c], .bool false]) ∧ ∃ va' vo', Stp v4 gb gb na no w' va' vo' t1 from do_t v4 gb gb na no t1 t1 ⟨c, s, 2, 0, 0, 0, 77⟩ r false HTB4.out HNX.out.ok.o64 (by have := HLU.out; omega) HQ77.out HDU.out)
                    go_upto_region 29 with fail
                    rw [← hv4]
                    simp only [← hp3]
                    clear hv4 hp3
                    go_wp2_with fail
                    refine HDB.out.mono ?_
                    rintro e v5 ⟨rfl, na2, no2, hsb⟩
                    have HBE := hid (show Below wv.heap.size wv v5 from hsb.bel HTB4.out HBD.out HGBL.out HBD.out.size)
                    have hr5 := (hsb.k.block p3 (Array.getElem?_eq_some_iff.1 HX4.out).1 HNK.out).trans HX4.out
                    have HR5 := hid hr5
                    obtain ⟨v6, hv6⟩ : ∃ v6, v6 = v5.alloc (.cells #[.int .u8 (r.cl : Int), .int .u32 (r.s : Int), .int .i64 r.e, .int .u32 (r.j : Int), .int .u8 (r.st : Int), .int .i64 r.c] 37) := ⟨_, rfl⟩
                    obtain ⟨p4, hp4⟩ : ∃ p4, p4 = v5.heap.size := ⟨_, rfl⟩
                    have hb6 : Below v5.heap.size v5 v6 := by rw [hv6]; exact (Below.refl _ _).alloc (Nat.le_refl _) _
                    have hx6 : v6.heap[p4]? = some (.cells #[.int .u8 (r.cl : Int), .int .u32 (r.s : Int), .int .i64 r.e, .int .u32 (r.j : Int), .int .u8 (r.st : Int), .int .i64 r.c] 37 (0, 0)) := by rw [hv6, hp4]; exact heap_alloc_new v5 _
                    have hy6 := (hb6.block p3 (Array.getElem?_eq_some_iff.1 hr5).1).trans hr5
                    have HBF := hid (HBV.out.trans ((HBE.out.trans (hb6.mono HBE.out.size)).mono HBV.out.size))
                    have a0 : v6.cell? ⟨p4, 0, none⟩ = some (.int .u8 (r.cl : Int)) := (cell_of_row _ _ _ _ _ _ hx6).trans rfl
                    have a1 : v6.cell? ⟨p4, 1, none⟩ = some (.int .u32 (r.s : Int)) := (cell_of_row _ _ _ _ _ _ hx6).trans rfl
                    have a2 : v6.cell? ⟨p4, 2, none⟩ = some (.int .i64 r.e) := (cell_of_row _ _ _ _ _ _ hx6).trans rfl
                    have a3 : v6.cell? ⟨p4, 3, none⟩ = some (.int .u32 (r.j : Int)) := (cell_of_row _ _ _ _ _ _ hx6).trans rfl
                    have a4 : v6.cell? ⟨p4, 4, none⟩ = some (.int .u8 (r.st : Int)) := (cell_of_row _ _ _ _ _ _ hx6).trans rfl
                    have a5 : v6.cell? ⟨p4, 5, none⟩ = some (.int .i64 r.c) := (cell_of_row _ _ _ _ _ _ hx6).trans rfl
                    have e0 : v6.cell? ⟨p3, 0, none⟩ = some (.int .u8 (r.cl : Int)) := (cell_of_row _ _ _ _ _ _ hy6).trans rfl
                    have e1 : v6.cell? ⟨p3, 1, none⟩ = some (.int .u32 (r.s : Int)) := (cell_of_row _ _ _ _ _ _ hy6).trans rfl
                    have e2 : v6.cell? ⟨p3, 2, none⟩ = some (.int .i64 r.e) := (cell_of_row _ _ _ _ _ _ hy6).trans rfl
                    have e3 : v6.cell? ⟨p3, 3, none⟩ = some (.int .u32 (r.j : Int)) := (cell_of_row _ _ _ _ _ _ hy6).trans rfl
                    have e4 : v6.cell? ⟨p3, 4, none⟩ = some (.int .u8 (r.st : Int)) := (cell_of_row _ _ _ _ _ _ hy6).trans rfl
                    have e5 : v6.cell? ⟨p3, 5, none⟩ = some (.int .i64 r.c) := (cell_of_row _ _ _ _ _ _ hy6).trans rfl
                    clear hsb hr5 hb6 hx6 hy6 HDB
                    go_upto_region 30 with fail
                    rw [← hv6]
                    simp only [← hp4]
                    clear hv6 hp4
                    go_wp2_with fail
                    go_roundw
                    case rel => exact ⟨i + 1, hi4, by go_num, HBF.out⟩
                    case measure => simp [intOf]; omega
                  · have hii : ¬ (i : Int) < 4 := by omega
                    have HBG := hid (HBXX.out.trans (HBV.out.mono HBXX.out.size))
                    clear hsv
                    go_wp2_with fail
                    go_roundw
                    case rel => exact ⟨c + 1, hc8, by go_num, HBG.out⟩
                    case measure => simp [intOf]; omega
            · have hci : ¬ (c : Int) < 8 := by omega
              have HBWF := hid (HBX0.out.trans ((HBXZ.out.trans (HBY.out.mono HBXZ.out.size)).mono HBX0.out.size))
              go_wp2_with fail
              go_ret
              exact ⟨rfl, HBWF.out⟩

/-! ### THE ROW's STEP -/
set_option maxRecDepth 100000 in
theorem lifted (os : Os) (started : os.Started) (H : Type) (enc : TypeId × Value → H) :
    ReturnsInHanded {} Try.checked os 5 .any (Rows.jobsApartSpec.pre6 enc Try.prog Try.f5 Rows.jobsApartRow.domain false) (Rows.jobsApartSpec.post enc Try.prog Try.f5 false true false false) := by
  refine returnsInHanded_of_change (C := Try.checked) own started (by kernel_rfl) Try.func5
    (ChangeSpec.witness6 (enc := enc) (C := Try.checked) false ⟨#[], #[.slice none 0 0, .agg #[.int .u8 0, .int .u32 0, .int .u8 0, .int .u8 0, .int .i64 0, .int .i64 0, .int .u32 0]], []⟩ 8 (by kernel_rfl) (by kernel_rfl) (by kernel_rfl) (by kernel_rfl)) ?_
  intro W base args ds gs before hval0 hW hcnd _
  have hval : ∀ (j : Nat) t v, Try.f5.params[j]? = some t → args[j]? = some v → Value.okWide Try.prog W .any base t v := hval0
  have hW' := hW
  obtain ⟨p, q, hA0, hV, rfl, hfz, hnd⟩ := hW
  have hA : DataW.TrodAll enc Try.prog W 0 (fun _ => true) true Try.f5.params.toList args.toList ds p := hA0
  rw [Try.params5] at hA hval
  obtain ⟨v0, vs0, d0, ds0, p0, q0, hargs, rfl, rfl, h0, r0⟩ := trodAll_cons hA
  obtain ⟨v1, vs1, d1, ds1, p1, q1, rfl, rfl, rfl, h1, r1⟩ := trodAll_cons r0
  obtain ⟨rfl, rfl, rfl⟩ := trodAll_nil r1
  obtain rfl : args = #[v0, v1] := by cases args; simp_all
  obtain ⟨rfl, rfl⟩ := trodVars_none hV
  have k0 := h0
  have lt0 : ∀ x ∈ p0, x.block < W.heap.size := by obtain ⟨m, hm⟩ := k0; exact DataW.trod_lt m _ _ _ hm
  have k1 := h1
  have lt1 : ∀ x ∈ p1, x.block < W.heap.size := by obtain ⟨m, hm⟩ := k1; exact DataW.trod_lt m _ _ _ hm
  obtain ⟨a0, len0, cap0, rfl⟩ := okWide_slice Try.underlying22 (hval 0 22 v0 rfl rfl)
  have w0 : IsOps16 W a0 len0 cap0 := isOps16_of h0
  have w1 : IsRequest W v1 := isRequest_of (hval 1 33 v1 rfl rfl) h1
  clear hA0 hval0
  refine (walk a0 len0 cap0 v1 W w0 w1).mono fun e W' ⟨he, bel⟩ => ?_
  subst he
  exact ⟨_, rfl, _, _, _, [], _, [], hW', trodAll_mk1 (shut_bool Try.underlying4 _), (trodAll_cons_mk (Below.trod laidOut (by kernel_rfl) (of_decide_eq_true (by kernel_rfl)) k0 bel lt0) (trodAll_cons_mk (Below.trod laidOut (by kernel_rfl) (of_decide_eq_true (by kernel_rfl)) k1 bel lt1) trodAll_mk0)), rfl, bel.frame _, fun h => by cases h⟩

theorem over : Rows.jobsApartRow.holds Try.pinned (OpenSpec.ofChange Rows.jobsApartSpec) :=
  OpenClaim.holds_of_wide 5 Try.f5 rfl rfl rfl rfl rfl rfl rfl ⟨rfl, rfl, rfl, rfl, rfl⟩ rfl rfl rfl rfl rfl (by kernel_rfl) Try.func5 (by kernel_rfl)
    (of_decide_eq_true (by kernel_rfl)) (by unfold Func.isWrapper; first | (rw [if_pos (by decide +kernel)]; kernel_rfl) | (rw [if_neg (by decide +kernel)]; exact ⟨rfl, rfl⟩))
    (fun os started H enc _ => lifted os started H enc)

/-- THE STATEMENT -/
theorem jobsApart_holds : Rows.JobsApartSaid := over
#print axioms jobsApart_holds
end Go.Proofs.Ytahiaifdfgkemaa.jobsApart
