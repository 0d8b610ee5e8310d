/-
  What is refused changes nothing: neither the bytes nor the active jobs; what is taken is answered to who asked.
  (The frame behind the walk is the guide's shell, at these parameters.)
-/
import Derived.Test.YtahiaifdfgkemaaRows
import Derived.WalkKit
import Derived.Test.YtahiaifdfgkemaaJbRR
import Derived.ProofKit
import Derived.Deep.Cut
import Derived.Deep.CutRange
import Derived.Deep.CutBlock
import Derived.Deep.Grids
import Derived.OpenShut
import Derived.ShutString
import Derived.ChangeOld
import Derived.Below
namespace Go.Proofs.Ytahiaifdfgkemaa.jobsRefused
open Go.ChangeShapes Go.WideShapes Go.ChangeAt Go.RowKit
open Go.ChangeMaps (open_string shut_string)
set_option linter.unusedVariables false

theorem own : ownKnob Try.prog.godebug = none := by kernel_rfl
theorem laidOut : laidOutB Try.prog = true := by kernel_rfl

set_option linter.unusedSimpArgs false
theorem do_t (w : World) (lo b : Nat) (va vo : Value) (t t' : Tb) (q : Note.Q) (r : Note.R) (ok : Bool) (h : TbAt w lo b va vo t) (hv : t.over.length ≤ 64) (hl : t.last < 100000) (hq : q.wf) (e : t.do q = ((r, ok), t')) :
    Calls Try.prog 9 #[.pointer (some ⟨b, 0, none⟩), .agg #[.int .u8 (q.cl : Int), .int .u32 (q.s : Int), .int .u8 (q.k : Int), .int .u8 (q.t : Int), .int .i64 q.kk, .int .i64 q.w, .int .u32 (q.j : Int)]] w fun e w' => e = .returned (.tuple #[.agg #[.int .u8 (r.cl : Int), .int .u32 (r.s : Int), .int .i64 r.e, .int .u32 (r.j : Int), .int .u8 (r.st : Int), .int .i64 r.c], .bool ok]) ∧ ∃ va' vo', Stp w lo b va vo w' va' vo' t' := by
  have h1 := do_any w lo b va vo t q h hv hl hq
  rw [e] at h1
  exact h1
structure JrAt (x wr : World) (b : Nat) (va vo : Value) (t : Tb) : Prop where
  tb : TbAt wr b b va vo t
  ok : t.ok
  fair : t.fair
  last : t.last ≤ 40
  bel : Below x.heap.size x wr
  blo : x.heap.size ≤ b
section
variable {x wr w2 : World} {b : Nat} {va vo va' vo' : Value} {t t' : Tb}
theorem JrAt.below (h : JrAt x wr b va vo t) (hb : Below wr.heap.size wr w2) : JrAt x w2 b va vo t := ⟨h.tb.below hb, h.ok, h.fair, h.last, h.bel.trans (hb.mono h.bel.size), h.blo⟩
theorem JrAt.step (h : JrAt x wr b va vo t) (hs : Stp wr b b va vo w2 va' vo' t') (ho : t'.ok) (hf : t'.fair) (hl : t'.last ≤ 40) : JrAt x w2 b va' vo' t' := ⟨hs.tb, ho, hf, hl, hs.bel h.tb h.bel h.blo h.bel.size, h.blo⟩
theorem JrAt.rs (h : JrAt x wr b va vo t) : ∀ r ∈ t.rs, r.s ≤ 4294967295 ∧ r.j ≤ 4294967295 := fun r hr => by
  obtain ⟨c, hc⟩ := List.getElem?_of_mem hr
  exact (h.fair.rs c r hc).2.2
end
set_option maxRecDepth 100000 in
set_option maxHeartbeats 8000000 in
theorem walk (a0 : Option Addr) (len0 cap0 : Nat) (v1 : Value) (w : World) (w0 : IsOps16 w a0 len0 cap0) (w1 : IsRequest w v1) :
    Calls Try.prog 4 #[.slice a0 len0 cap0, v1] w fun e w' => e = .returned (.bool true) ∧ Below w.heap.size w w' := by
  obtain ⟨Q, rfl, hQw, -⟩ := w1
  obtain ⟨hlc, hcm⟩ := w0.bounds
  have HQW := hid hQw
  obtain ⟨x0, hx0⟩ : ∃ x0, x0 = w.alloc (.cells #[.int .u8 (Q.cl : Int), .int .u32 (Q.s : Int), .int .u8 (Q.k : Int), .int .u8 (Q.t : Int), .int .i64 Q.kk, .int .i64 Q.w, .int .u32 (Q.j : Int)] 33) := ⟨_, rfl⟩
  obtain ⟨p0, hp0⟩ : ∃ p0, p0 = w.heap.size := ⟨_, rfl⟩
  have hbx0 : Below w.heap.size w x0 := by rw [hx0]; exact (Below.refl _ _).alloc (Nat.le_refl _) _
  have hq0 : x0.heap[p0]? = some (.cells #[.int .u8 (Q.cl : Int), .int .u32 (Q.s : Int), .int .u8 (Q.k : Int), .int .u8 (Q.t : Int), .int .i64 Q.kk, .int .i64 Q.w, .int .u32 (Q.j : Int)] 33 (0, 0)) := by rw [hx0, hp0]; exact heap_alloc_new w _
  have HBX0 := hid hbx0
  have HQ0 := hid hq0
  have hpl := (Array.getElem?_eq_some_iff.1 hq0).1
  have HOPS := hid w0
  clear w0 hQw hbx0 hq0
  go_enter Try.func4, Try.ntmps4
  go_upto_region 1 with fail
  rw [← hx0]
  simp only [← hp0]
  clear hx0 hp0
  go_wp2_with fail
  refine (awake16_any x0).mono ?_
  rintro e x1 ⟨rfl, hb1⟩
  have HB1 := hid hb1
  clear hb1
  go_wp2_with fail
  refine (jnew_any 4 x1 (by omega) (by omega)).mono ?_
  rintro e x2 ⟨rfl, ht, hb⟩
  obtain ⟨b, hbb⟩ : ∃ b, b = x1.heap.size := ⟨_, rfl⟩
  rw [← hbb] at ht
  simp only [← hbb]
  have HJ := hid (show JrAt x0 x2 b (.slice none 0 0) (.slice none 0 0) (newTb 4) from ⟨ht, ok_new 4, fair_new 4, Nat.zero_le _, HB1.out.trans (hb.mono HB1.out.size), by rw [hbb]; exact HB1.out.size⟩)
  clear ht hb hbb HB1
  go_wp2_with fail
  go_loopw [21] (fun vi wr => ∃ (k : Nat) (va vo : Value) (t : Tb), k ≤ len0 ∧ vi = .int .i64 k ∧ t.last ≤ k ∧ JrAt x0 wr b va vo t) (fun i _ => len0 - (intOf i).toNat)
  case atStart => exact ⟨0, _, _, newTb 4, Nat.zero_le _, rfl, Nat.zero_le _, HJ.out⟩
  case round =>
    obtain ⟨k, va, vo, t, hk, rfl, hlk, hj⟩ := hrel
    have HJ := hid hj
    have HLK := hid hlk
    clear hj hlk
    by_cases hlt : k < len0
    · have hki : (k : Int) < (len0 : Int) := by omega
      obtain ⟨sb, off, d, q, nn, rfl, hd, hqw, hsb, c0, c1, c2, c3, c4, c5, c6, c7, c8⟩ := HOPS.out.at (HBX0.out.trans (HJ.out.bel.mono HBX0.out.size)) hlt
      have HQ := hid hqw
      clear hqw
      obtain ⟨wm, hwm⟩ : ∃ wm, wm = wr.alloc (.cells #[.int .u8 (d : Int), .int .u8 (q.cl : Int), .int .u32 (q.s : Int), .int .u8 (q.k : Int), .int .u8 (q.t : Int), .int .i64 q.kk, .int .i64 q.w, .int .u32 (q.j : Int), .int .i64 nn] 35) := ⟨_, rfl⟩
      obtain ⟨p, hp⟩ : ∃ p, p = wr.heap.size := ⟨_, rfl⟩
      have hbm : Below wr.heap.size wr wm := by rw [hwm]; exact (Below.refl _ _).alloc (Nat.le_refl _) _
      have hxm : wm.heap[p]? = some (.cells #[.int .u8 (d : Int), .int .u8 (q.cl : Int), .int .u32 (q.s : Int), .int .u8 (q.k : Int), .int .u8 (q.t : Int), .int .i64 q.kk, .int .i64 q.w, .int .u32 (q.j : Int), .int .i64 nn] 35 (0, 0)) := by rw [hwm, hp]; exact heap_alloc_new wr _
      have HJM := hid (HJ.out.below hbm)
      have HXM := hid hxm
      go_upto_region 7 with fail
      rw [← hwm]
      simp only [← hp]
      clear hwm hp hbm c0 c1 c2 c3 c4 c5 c6 c7 c8
      have z1 : wm.cell? ⟨p, 1, none⟩ = some (.int .u8 (q.cl : Int)) := (cell_of_row _ _ _ _ _ _ hxm).trans rfl
      have z2 : wm.cell? ⟨p, 2, none⟩ = some (.int .u32 (q.s : Int)) := (cell_of_row _ _ _ _ _ _ hxm).trans rfl
      have z3 : wm.cell? ⟨p, 3, none⟩ = some (.int .u8 (q.k : Int)) := (cell_of_row _ _ _ _ _ _ hxm).trans rfl
      have z4 : wm.cell? ⟨p, 4, none⟩ = some (.int .u8 (q.t : Int)) := (cell_of_row _ _ _ _ _ _ hxm).trans rfl
      have z5 : wm.cell? ⟨p, 5, none⟩ = some (.int .i64 q.kk) := (cell_of_row _ _ _ _ _ _ hxm).trans rfl
      have z6 : wm.cell? ⟨p, 6, none⟩ = some (.int .i64 q.w) := (cell_of_row _ _ _ _ _ _ hxm).trans rfl
      have z7 : wm.cell? ⟨p, 7, none⟩ = some (.int .u32 (q.j : Int)) := (cell_of_row _ _ _ _ _ _ hxm).trans rfl
      clear hxm
      by_cases h40 : k < 40
      · have h4i : decide ((k : Int) < 40) = true := decide_eq_true (by omega)
        have h4j : (k : Int) < 40 := by omega
        obtain ⟨⟨⟨r, dn⟩, t1⟩, hdo⟩ : ∃ x, x = t.do q := ⟨_, rfl⟩
        obtain ⟨hnx, -, -⟩ := next_do HJM.out.ok q
        obtain ⟨hfd, -, -⟩ := fair_do HJM.out.ok HJM.out.fair (by have := HJM.out.last; omega) q HQ.out
        rw [← hdo] at hnx hfd
        dsimp only at hnx hfd
        have HL1 := hid (show t1.last ≤ k + 1 by have := HLK.out; rcases hnx.last with e | e <;> omega)
        have HNX := hid hnx
        have HFD := hid hfd
        have HDO := hid (do_t wm b b va vo t t1 q r dn HJM.out.tb HJM.out.ok.o64 (by have := HJM.out.last; omega) HQ.out hdo.symm)
        clear hnx hfd hdo
        go_wp2_with fail
        refine HDO.out.mono ?_
        rintro e w5 ⟨rfl, va1, vo1, hs⟩
        have HJ5 := hid (HJM.out.step hs HNX.out.ok HFD.out (by have := HL1.out; omega))
        clear hs
        go_wp2_with fail
        go_roundw
        case rel => exact ⟨k + 1, _, _, t1, hlt, by go_num, HL1.out, HJ5.out⟩
        case measure => simp [intOf]; omega
      · have h4i : decide ((k : Int) < 40) = false := decide_eq_false (by omega)
        have h4j : ¬ (k : Int) < 40 := by omega
        go_wp2_with fail
        go_roundw
        case rel => exact ⟨k + 1, _, _, t, hlt, by go_num, by have := HLK.out; omega, HJM.out⟩
        case measure => simp [intOf]; omega
    · have hki : ¬ (k : Int) < (len0 : Int) := by omega
      go_wp2_with fail
      refine (bytes_any wr b b va vo t HJ.out.tb HJ.out.fair.jw (by have := HJ.out.last; omega) HJ.out.rs).mono ?_
      rintro e w3 ⟨vb, rfl, hob, hb3⟩
      have HJ3 := hid (HJ.out.below hb3)
      have HRB := hid hob.rd
      have HVB := hid (show ∀ k, vb.ownBlock = some k → wr.heap.size ≤ k from fun k hk => (hob.lt k hk).1)
      clear hob hb3
      go_wp2_with fail
      refine (jactive_any w3 b b va vo t HJ3.out.tb).mono ?_
      rintro e w4 ⟨vc, rfl, hoc, hb4⟩
      have HJ4 := hid (HJ3.out.below hb4)
      have HRB4 := hid (HRB.out.below hb4)
      have HOC := hid hoc
      have HSZ4 := hid (show w3.heap.size ≤ w4.heap.size from hb4.size)
      clear hoc hb4
      obtain ⟨⟨⟨r, dn⟩, t1⟩, hdo⟩ : ∃ x, x = t.do Q := ⟨_, rfl⟩
      obtain ⟨hnx, -, -⟩ := next_do HJ4.out.ok Q
      obtain ⟨hfd, hr0, hr1⟩ := fair_do HJ4.out.ok HJ4.out.fair (by have := HJ4.out.last; omega) Q HQW.out
      rw [← hdo] at hnx hfd hr0 hr1
      dsimp only at hnx hfd hr0 hr1
      have HDO := hid (do_t w4 b b va vo t t1 Q r dn HJ4.out.tb HJ4.out.ok.o64 (by have := HJ4.out.last; omega) HQW.out hdo.symm)
      have HR0 := hid hr0
      have HR1 := hid hr1
      clear hnx hfd hr0 hr1 hdo
      have hq4 := (HJ4.out.bel.block p0 hpl).trans HQ0.out
      have y0 : w4.cell? ⟨p0, 0, none⟩ = some (.int .u8 (Q.cl : Int)) := (cell_of_row _ _ _ _ _ _ hq4).trans rfl
      have y1 : w4.cell? ⟨p0, 1, none⟩ = some (.int .u32 (Q.s : Int)) := (cell_of_row _ _ _ _ _ _ hq4).trans rfl
      have y2 : w4.cell? ⟨p0, 2, none⟩ = some (.int .u8 (Q.k : Int)) := (cell_of_row _ _ _ _ _ _ hq4).trans rfl
      have y3 : w4.cell? ⟨p0, 3, none⟩ = some (.int .u8 (Q.t : Int)) := (cell_of_row _ _ _ _ _ _ hq4).trans rfl
      have y4 : w4.cell? ⟨p0, 4, none⟩ = some (.int .i64 Q.kk) := (cell_of_row _ _ _ _ _ _ hq4).trans rfl
      have y5 : w4.cell? ⟨p0, 5, none⟩ = some (.int .i64 Q.w) := (cell_of_row _ _ _ _ _ _ hq4).trans rfl
      have y6 : w4.cell? ⟨p0, 6, none⟩ = some (.int .u32 (Q.j : Int)) := (cell_of_row _ _ _ _ _ _ hq4).trans rfl
      clear hq4
      go_wp2_with fail
      refine HDO.out.mono ?_
      rintro e w5 ⟨rfl, va1, vo1, hs⟩
      have hbw5 : Below x0.heap.size x0 w5 := hs.bel HJ4.out.tb HJ4.out.bel HJ4.out.blo HJ4.out.bel.size
      have hq5 := (hbw5.block p0 hpl).trans HQ0.out
      obtain ⟨w6, hw6⟩ : ∃ w6, w6 = w5.alloc (.cells #[.int .u8 (r.cl : Int), .int .u32 (r.s : Int), .int .i64 r.e, .int .u32 (r.j : Int), .int .u8 (r.st : Int), .int .i64 r.c] 37) := ⟨_, rfl⟩
      obtain ⟨p1, hp1⟩ : ∃ p1, p1 = w5.heap.size := ⟨_, rfl⟩
      have hb6 : Below w5.heap.size w5 w6 := by rw [hw6]; exact (Below.refl _ _).alloc (Nat.le_refl _) _
      have hx6 : w6.heap[p1]? = some (.cells #[.int .u8 (r.cl : Int), .int .u32 (r.s : Int), .int .i64 r.e, .int .u32 (r.j : Int), .int .u8 (r.st : Int), .int .i64 r.c] 37 (0, 0)) := by rw [hw6, hp1]; exact heap_alloc_new w5 _
      have hq6 := (hb6.block p0 (by have := hbw5.size; omega)).trans hq5
      have HBW6 := hid (HBX0.out.trans ((hbw5.trans (hb6.mono hbw5.size)).mono HBX0.out.size))
      have HBX6 := hid (hbw5.trans (hb6.mono hbw5.size))
      have e2 : w6.cell? ⟨p1, 2, none⟩ = some (.int .i64 r.e) := (cell_of_row _ _ _ _ _ _ hx6).trans rfl
      have e0 : w6.cell? ⟨p1, 0, none⟩ = some (.int .u8 (r.cl : Int)) := (cell_of_row _ _ _ _ _ _ hx6).trans rfl
      have e1 : w6.cell? ⟨p1, 1, none⟩ = some (.int .u32 (r.s : Int)) := (cell_of_row _ _ _ _ _ _ hx6).trans rfl
      have g0 : w6.cell? ⟨p0, 0, none⟩ = some (.int .u8 (Q.cl : Int)) := (cell_of_row _ _ _ _ _ _ hq6).trans rfl
      have g1 : w6.cell? ⟨p0, 1, none⟩ = some (.int .u32 (Q.s : Int)) := (cell_of_row _ _ _ _ _ _ hq6).trans rfl
      have HX6 := hid hx6
      have HS := hid hs
      have HB6 := hid hb6
      go_upto_region 12 with fail
      rw [← hw6]
      simp only [← hp1]
      clear hw6 hp1 hb6 hx6 hq6 hq5 hbw5 hs y0 y1 y2 y3 y4 y5 y6
      by_cases he : r.e = 0
      · have hei : decide (r.e = 0) = true := decide_eq_true he
        have heb : (r.e == 0) = true := by simp [he]
        obtain ⟨f1, f2⟩ := HR0.out he
        rw [f1] at e0
        rw [f2] at e1
        have he' := hid he
        clear f1 f2
        go_wp2_with fail
        go_ret
        exact ⟨by simp, HBW6.out⟩
      · have hei : decide (r.e = 0) = false := decide_eq_false he
        have heb : (r.e == 0) = false := by simp [he]
        obtain ⟨f1, f2, f3⟩ := HR1.out he
        subst f1 f2
        have HT6 := hid (HS.out.tb.below HB6.out)
        have HF6 := hid HJ4.out.fair
        have HJL := hid HJ4.out.last
        have HRS6 := hid HJ4.out.rs
        have HRB6 := hid (show Rd w6 vb (tbytes t1) from ((HRB4.out.keeps HS.out.k (fun k hk hTk => by have h1 := HVB.out k hk; have h2 := (HJ.out.tb.tk_lt hTk).2; omega)).below HB6.out))
        have HOC6 := hid (show OwnJ w6 w3.heap.size vc t1.act from owns_below (owns_by HOC.out fun k hk => HS.out.k.block k (World.ownsRow.lt HOC.out k hk).2 (fun hTk => by have h1 := (World.ownsRow.lt HOC.out k hk).1; have h2 := (HJ3.out.tb.tk_lt hTk).2; omega)) HB6.out)
        clear HS HB6
        go_wp2_with fail
        refine (bytes_any w6 b b _ _ t1 HT6.out HF6.out.jw (by have := HJL.out; omega) HRS6.out).mono ?_
        rintro e w7 ⟨vb2, rfl, hob2, hb7⟩
        have HRB2 := hid hob2.rd
        have HRB7 := hid (HRB6.out.below hb7)
        have HOC7 := hid (owns_below HOC6.out hb7)
        have HT7 := hid (HT6.out.below hb7)
        have HX7 := hid ((hb7.block p1 (Array.getElem?_eq_some_iff.1 HX6.out).1).trans HX6.out)
        have HBW7 := hid (HBW6.out.trans (hb7.mono HBW6.out.size))
        clear hob2 hb7
        go_wp2_with fail
        refine (same_eq vb2 vb _ w7 HRB2.out HRB7.out).mono ?_
        rintro e w7' ⟨rfl, rfl⟩
        go_wp2_with fail
        refine (jactive_any w7 b b _ _ t1 HT7.out).mono ?_
        rintro e w8 ⟨vc2, rfl, hoc2, hb8⟩
        have HOC8 := hid (owns_below HOC7.out hb8)
        have HO2 := hid hoc2
        have HX8 := hid ((hb8.block p1 (Array.getElem?_eq_some_iff.1 HX7.out).1).trans HX7.out)
        have HBW8 := hid (HBW7.out.trans (hb8.mono HBW7.out.size))
        clear hoc2 hb8
        go_wp2_with fail
        refine (refsame16_any w8 vc2 vc t1.act (OwnJ.rd HO2.out) (OwnJ.rd HOC8.out) (by have := HT7.out.la; omega)).mono ?_
        rintro e w9 ⟨rfl, hb9⟩
        have hx9 := (hb9.block p1 (Array.getElem?_eq_some_iff.1 HX8.out).1).trans HX8.out
        have HBW9 := hid (HBW8.out.trans (hb9.mono HBW8.out.size))
        have j3 : w9.cell? ⟨p1, 3, none⟩ = some (.int .u32 (r.j : Int)) := (cell_of_row _ _ _ _ _ _ hx9).trans rfl
        rw [f3] at j3
        clear hb9 hx9 f3
        go_wp2_with fail
        go_ret
        exact ⟨rfl, HBW9.out⟩

/-! ### THE ROW's STEP -/
set_option maxRecDepth 100000 in
theorem lifted (os : Os) (started : os.Started) (H : Type) (enc : TypeId × Value → H) :
    ReturnsInHanded {} Try.checked os 4 .any (Rows.jobsRefusedSpec.pre6 enc Try.prog Try.f4 Rows.jobsRefusedRow.domain false) (Rows.jobsRefusedSpec.post enc Try.prog Try.f4 false true false false) := by
  refine returnsInHanded_of_change (C := Try.checked) own started (by kernel_rfl) Try.func4
    (ChangeSpec.witness6 (enc := enc) (C := Try.checked) false ⟨#[], #[.slice none 0 0, .agg #[.int .u8 0, .int .u32 0, .int .u8 0, .int .u8 0, .int .i64 0, .int .i64 0, .int .u32 0]], []⟩ 8 (by kernel_rfl) (by kernel_rfl) (by kernel_rfl) (by kernel_rfl)) ?_
  intro W base args ds gs before hval0 hW hcnd _
  have hval : ∀ (j : Nat) t v, Try.f4.params[j]? = some t → args[j]? = some v → Value.okWide Try.prog W .any base t v := hval0
  have hW' := hW
  obtain ⟨p, q, hA0, hV, rfl, hfz, hnd⟩ := hW
  have hA : DataW.TrodAll enc Try.prog W 0 (fun _ => true) true Try.f4.params.toList args.toList ds p := hA0
  rw [Try.params4] at hA hval
  obtain ⟨v0, vs0, d0, ds0, p0, q0, hargs, rfl, rfl, h0, r0⟩ := trodAll_cons hA
  obtain ⟨v1, vs1, d1, ds1, p1, q1, rfl, rfl, rfl, h1, r1⟩ := trodAll_cons r0
  obtain ⟨rfl, rfl, rfl⟩ := trodAll_nil r1
  obtain rfl : args = #[v0, v1] := by cases args; simp_all
  obtain ⟨rfl, rfl⟩ := trodVars_none hV
  have k0 := h0
  have lt0 : ∀ x ∈ p0, x.block < W.heap.size := by obtain ⟨m, hm⟩ := k0; exact DataW.trod_lt m _ _ _ hm
  have k1 := h1
  have lt1 : ∀ x ∈ p1, x.block < W.heap.size := by obtain ⟨m, hm⟩ := k1; exact DataW.trod_lt m _ _ _ hm
  obtain ⟨a0, len0, cap0, rfl⟩ := okWide_slice Try.underlying22 (hval 0 22 v0 rfl rfl)
  have w0 : IsOps16 W a0 len0 cap0 := isOps16_of h0
  have w1 : IsRequest W v1 := isRequest_of (hval 1 33 v1 rfl rfl) h1
  clear hA0 hval0
  refine (walk a0 len0 cap0 v1 W w0 w1).mono fun e W' ⟨he, bel⟩ => ?_
  subst he
  exact ⟨_, rfl, _, _, _, [], _, [], hW', trodAll_mk1 (shut_bool Try.underlying4 _), (trodAll_cons_mk (Below.trod laidOut (by kernel_rfl) (of_decide_eq_true (by kernel_rfl)) k0 bel lt0) (trodAll_cons_mk (Below.trod laidOut (by kernel_rfl) (of_decide_eq_true (by kernel_rfl)) k1 bel lt1) trodAll_mk0)), rfl, bel.frame _, fun h => by cases h⟩

theorem over : Rows.jobsRefusedRow.holds Try.pinned (OpenSpec.ofChange Rows.jobsRefusedSpec) :=
  OpenClaim.holds_of_wide 4 Try.f4 rfl rfl rfl rfl rfl rfl rfl ⟨rfl, rfl, rfl, rfl, rfl⟩ rfl rfl rfl rfl rfl (by kernel_rfl) Try.func4 (by kernel_rfl)
    (of_decide_eq_true (by kernel_rfl)) (by unfold Func.isWrapper; first | (rw [if_pos (by decide +kernel)]; kernel_rfl) | (rw [if_neg (by decide +kernel)]; exact ⟨rfl, rfl⟩))
    (fun os started H enc _ => lifted os started H enc)

/-- THE STATEMENT -/
theorem jobsRefused_holds : Rows.JobsRefusedSaid := over
#print axioms jobsRefused_holds
end Go.Proofs.Ytahiaifdfgkemaa.jobsRefused
