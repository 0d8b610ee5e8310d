/-
  NoteNotes: every note has its bytes or is refused, as the document's own writer tells; it is read again as what it was; it comes back untouched. No condition.
  (The frame behind the walk is the guide's shell, at these parameters.)
-/
import Derived.Test.YtafpgglebjllbaaRows
import Derived.WalkKit
import Derived.Test.YtafpgglebjllbaaNotePk
import Derived.Test.YtafpgglebjllbaaNoteYNP
import Derived.Test.YtafpgglebjllbaaNoteGN
import Derived.Test.YtafpgglebjllbaaAwake4
import Derived.Test.YtafpgglebjllbaaNoteZ
import Derived.Test.YtafpgglebjllbaaNoteO
import Derived.Test.YtafpgglebjllbaaNoteNk
import Derived.ProofKit
import Derived.Deep.Cut
import Derived.OpenShut
import Derived.ShutString
import Derived.ChangeOld
import Derived.Below
namespace Go.Proofs.Ytafpgglebjllbaa.noteNotes
open Go.ChangeShapes Go.WideShapes Go.ChangeAt Go.RowKit
open Go.ChangeMaps (open_string shut_string)
set_option linter.unusedVariables false

theorem own : ownKnob Try.prog.godebug = none := by kernel_rfl
theorem laidOut : laidOutB Try.prog = true := by kernel_rfl

theorem step_keepB {base : Nat} {w0 wd we : World} {o : Obj} {v : Value} {C : Option Obj} (hb : Below base w0 wd) (hc : base ≤ w0.heap.size) (h : base < wd.heap.size) (hv : ∀ k, v.ownBlock = some k → base + 1 ≤ k) (hg : (wd.alloc o).grownBy we v.ownBlock)
    (hbx : wd.heap[base]? = C) : Below base w0 we ∧ we.heap[base]? = C ∧ wd.heap.size + 1 ≤ we.heap.size := by
  have hs : (wd.alloc o).heap.size = wd.heap.size + 1 := by simp
  refine ⟨(hb.alloc (Nat.le_trans hc hb.size) o).trans ⟨hg.os, hg.tape, hg.output, hg.size, fun k hk => hg.block k (by omega) fun e => by have := hv k e.symm; omega⟩, ?_, by have := hg.size; omega⟩
  rw [hg.block _ (by omega) (fun e => by have := hv _ e.symm; omega), ← hbx]
  exact Below.heap_alloc _ _ _ h

set_option maxRecDepth 100000 in
set_option maxHeartbeats 8000000 in
theorem nn_some_yes (x : Note.N) (A : Option Addr) (C : Nat) (K : Nat) (l : List UInt8) (w : World) (hC : C ≤ 9223372036854775807) (hKC : K ≤ C) (hK3 : K ≤ 1100) (hK : K = l.length) (hxb : x.b = l) (hx : x.wf) (hrd : Rd w (.slice A K C) l) (hxr : x.right = true) :
    Calls Try.prog 3 #[.agg #[.int .u8 (x.k : Int), .int .u8 (x.n : Int), .int .u32 (x.e : Int), .int .u32 (x.l : Int), .int .u32 (x.t : Int), .int .u32 (x.g : Int), .int .u32 (x.j : Int), .int .u32 (x.v : Int), .int .u8 (x.r : Int), .int .i64 x.c, .int .u32 (x.f : Int), .int .u32 (x.o : Int), .slice A K C]] w fun e w' => e = .returned (.bool true) ∧ Below w.heap.size w w' := by
  have HRD := hid hrd
  have HK := hid hK
  have HXW := hid hx
  have HXR := hid hxr
  have HXB := hid hxb
  have HKX := hid (show K = x.b.length by rw [hxb]; exact hK)
  have HK2 : K ≤ 1100 := by omega
  have ATX := hid (show Note.Ans Note.N.ok Note.N.enc Note.N.zero (Knot.knot x.enc) x 0 from .inr (.inl ⟨Knot.uerr_knot _ (x.enc_length HXR.out), ⟨hx, hxr⟩, Knot.utext_knot _ (x.enc_length HXR.out), rfl⟩))
  have HLA := hid (show (Knot.knot x.enc).length ≤ 100000 by rw [Knot.knot_length]; have := x.enc_length HXR.out; omega)
  skip
  clear hrd hK hx hxr hxb
  go_enter Try.func3, Try.ntmps3
  go_wp2_with fail
  refine (awake4_any _).mono ?_
  rintro e wa ⟨rfl, hba⟩
  have hsa := hba.size
  simp at hsa
  have HXa := hid ((hba.block w.heap.size (by simp)).trans (heap_alloc_new w (.cells #[.int .u8 (x.k : Int), .int .u8 (x.n : Int), .int .u32 (x.e : Int), .int .u32 (x.l : Int), .int .u32 (x.t : Int), .int .u32 (x.g : Int), .int .u32 (x.j : Int), .int .u32 (x.v : Int), .int .u8 (x.r : Int), .int .i64 x.c, .int .u32 (x.f : Int), .int .u32 (x.o : Int), .slice A K C] 25)))
  have HBa := hid (((Below.refl w.heap.size w).alloc (Nat.le_refl _) _).trans (hba.mono (by simp)))
  clear hba
  have hc6 : wa.cell? ⟨w.heap.size, 12, none⟩ = some (.slice A K C) := (cell_of_row _ _ _ _ _ _ HXa.out).trans rfl
  have hf6 : wa.frozen? ⟨w.heap.size, 12, none⟩ = false := frozen_of_row _ _ _ _ _ HXa.out
  obtain ⟨wb, hwb⟩ : ∃ wb, wb = wa.setCell ⟨w.heap.size, 12, none⟩ (.slice A K C) := ⟨_, rfl⟩
  have HXb := hid (show wb.heap[w.heap.size]? = some (.cells #[.int .u8 (x.k : Int), .int .u8 (x.n : Int), .int .u32 (x.e : Int), .int .u32 (x.l : Int), .int .u32 (x.t : Int), .int .u32 (x.g : Int), .int .u32 (x.j : Int), .int .u32 (x.v : Int), .int .u8 (x.r : Int), .int .i64 x.c, .int .u32 (x.f : Int), .int .u32 (x.o : Int), .slice A K C] 25 (0, 0)) by rw [hwb]; exact heap_setCell_same _ _ _ _ _ _ HXa.out)
  have HBb := hid (show Below w.heap.size w wb by rw [hwb]; exact HBa.out.setCell (by simp) _)
  have hsb : w.heap.size + 1 ≤ wb.heap.size := by rw [hwb]; simpa [World.setCell] using hsa
  have HWB := hid hwb
  clear hwb
  go_upto_region 4 with (fail)
  rw [← HWB.out]
  clear hc6 hf6
  have HA1 := hid (heap_alloc_new wb (.cells #[.int .u8 0, .int .u8 0, .int .u32 0, .int .u32 0, .int .u32 0, .int .u32 0, .int .u32 0, .int .u32 0, .int .u8 0, .int .i64 0, .int .u32 0, .int .u32 0, .slice none 0 0] 25))
  have HXb1 := hid ((Below.heap_alloc wb (.cells #[.int .u8 0, .int .u8 0, .int .u32 0, .int .u32 0, .int .u32 0, .int .u32 0, .int .u32 0, .int .u32 0, .int .u8 0, .int .i64 0, .int .u32 0, .int .u32 0, .slice none 0 0] 25) w.heap.size (by omega)).trans HXb.out)
  obtain ⟨wc, hwc⟩ : ∃ wc, wc = (wb.alloc (.cells #[.int .u8 0, .int .u8 0, .int .u32 0, .int .u32 0, .int .u32 0, .int .u32 0, .int .u32 0, .int .u32 0, .int .u8 0, .int .i64 0, .int .u32 0, .int .u32 0, .slice none 0 0] 25)).setRow wb.heap.size #[.int .u8 (x.k : Int), .int .u8 (x.n : Int), .int .u32 (x.e : Int), .int .u32 (x.l : Int), .int .u32 (x.t : Int), .int .u32 (x.g : Int), .int .u32 (x.j : Int), .int .u32 (x.v : Int), .int .u8 (x.r : Int), .int .i64 x.c, .int .u32 (x.f : Int), .int .u32 (x.o : Int), .slice A K C] := ⟨_, rfl⟩
  have h1 : Below wb.heap.size wb wc := by rw [hwc]; exact ((Below.refl _ _).alloc (Nat.le_refl _) _).trans (setRow_below _ (Nat.le_refl _))
  have HMc := hid (show wc.heap[wb.heap.size]? = some (.cells #[.int .u8 (x.k : Int), .int .u8 (x.n : Int), .int .u32 (x.e : Int), .int .u32 (x.l : Int), .int .u32 (x.t : Int), .int .u32 (x.g : Int), .int .u32 (x.j : Int), .int .u32 (x.v : Int), .int .u8 (x.r : Int), .int .i64 x.c, .int .u32 (x.f : Int), .int .u32 (x.o : Int), .slice A K C] 25 (0, 0)) by rw [hwc]; exact setRow_heap (wb.alloc (.cells #[.int .u8 0, .int .u8 0, .int .u32 0, .int .u32 0, .int .u32 0, .int .u32 0, .int .u32 0, .int .u32 0, .int .u8 0, .int .i64 0, .int .u32 0, .int .u32 0, .slice none 0 0] 25)) wb.heap.size _ _ 25 _ HA1.out)
  have hsc : wb.heap.size + 1 ≤ wc.heap.size := by rw [hwc]; simp
  have HWC := hid hwc
  have HXc := hid ((h1.block w.heap.size (by omega)).trans HXb.out)
  have HBc := hid (HBb.out.trans (h1.mono (by omega)))
  clear hwc h1
  go_upto_region 5 with (first | (refine load_st rfl 25 (.tmp 1) rfl w.heap.size rfl #[.int .u8 (x.k : Int), .int .u8 (x.n : Int), .int .u32 (x.e : Int), .int .u32 (x.l : Int), .int .u32 (x.t : Int), .int .u32 (x.g : Int), .int .u32 (x.j : Int), .int .u32 (x.v : Int), .int .u8 (x.r : Int), .int .i64 x.c, .int .u32 (x.f : Int), .int .u32 (x.o : Int), .slice A K C] _ 13 HXb.out Try.underlying25 size_note rfl ?_) | (refine store_st rfl 25 (.tmp 3) (.tmp 20) rfl wb.heap.size #[.int .u8 (x.k : Int), .int .u8 (x.n : Int), .int .u32 (x.e : Int), .int .u32 (x.l : Int), .int .u32 (x.t : Int), .int .u32 (x.g : Int), .int .u32 (x.j : Int), .int .u32 (x.v : Int), .int .u8 (x.r : Int), .int .i64 x.c, .int .u32 (x.f : Int), .int .u32 (x.o : Int), .slice A K C] rfl rfl #[.int .u8 0, .int .u8 0, .int .u32 0, .int .u32 0, .int .u32 0, .int .u32 0, .int .u32 0, .int .u32 0, .int .u8 0, .int .i64 0, .int .u32 0, .int .u32 0, .slice none 0 0] 13 HA1.out size_note rfl rfl (by simp [Value.oneCell']) ?_) | fail)
  rw [← HWC.out]
  have hc6 : wc.cell? ⟨w.heap.size, 12, none⟩ = some (.slice A K C) := (cell_of_row _ _ _ _ _ _ HXc.out).trans rfl
  have hc6e : (wc.alloc (.cells #[] 5)).cell? ⟨w.heap.size, 12, none⟩ = some (.slice A K C) := by exact (((Below.refl wc.heap.size wc).alloc (Nat.le_refl _) (.cells #[] 5)).cell (p := ⟨w.heap.size, 12, none⟩) (show w.heap.size < wc.heap.size by omega)).trans hc6
  have HRDc := hid ((HRD.out.below HBc.out).alloc (.cells #[] 5))
  have HOE := hid (Own.empty wc wc.heap.size (Nat.le_refl _))
  go_upto_region 6 with (first | (at_builtin; go_must (refine appk rfl (.tmp 21) (.tmp 23) rfl wc.heap.size (.slice (some ⟨wc.heap.size, 0, none⟩) 0 0) _ [] l l K rfl rfl HOE.out HRDc.out (by have := HK.out; simp <;> omega) rfl (by have := HK.out; simp <;> omega) (by simp) ?_); intro ad cp wd hod hgd; obtain ⟨hbd, hXd, hsd⟩ := step_keepB (base := w.heap.size) (wd := wc) (we := wd) (o := .cells #[] 5) (v := .slice (some ⟨wc.heap.size, 0, none⟩) 0 0) HBc.out (Nat.le_refl _) (by omega) (fun k hk => by have : wc.heap.size = k := Option.some.inj hk; omega) hgd HXc.out; obtain ⟨_, hMd, _⟩ := step_keepB (base := wb.heap.size) (wd := wc) (we := wd) (o := .cells #[] 5) (v := .slice (some ⟨wc.heap.size, 0, none⟩) 0 0) (Below.refl _ wc) (by omega) (by omega) (fun k hk => by have : wc.heap.size = k := Option.some.inj hk; omega) hgd HMc.out; have hm6 : wd.cell? ⟨wb.heap.size, 12, none⟩ = some (.slice A K C) := (cell_of_row _ _ _ _ _ _ hMd).trans rfl; have hmf : wd.frozen? ⟨wb.heap.size, 12, none⟩ = false := frozen_of_row _ _ _ _ _ hMd; have HOD := hid hod; have HXd := hid hXd; have HMd := hid hMd; have HBd := hid hbd; clear hod hgd hbd hXd hMd) | fail)
  clear hm6 hmf hc6 hc6e
  obtain ⟨we, hwe⟩ : ∃ we, we = wd.setCell ⟨wb.heap.size, 12, none⟩ (.slice ad K cp) := ⟨_, rfl⟩
  have HM_we := hid (show we.heap[wb.heap.size]? = some (.cells #[.int .u8 (x.k : Int), .int .u8 (x.n : Int), .int .u32 (x.e : Int), .int .u32 (x.l : Int), .int .u32 (x.t : Int), .int .u32 (x.g : Int), .int .u32 (x.j : Int), .int .u32 (x.v : Int), .int .u8 (x.r : Int), .int .i64 x.c, .int .u32 (x.f : Int), .int .u32 (x.o : Int), .slice ad K cp] 25 (0, 0)) by rw [hwe]; exact heap_setCell_same _ _ _ _ _ _ HMd.out)
  have HX_we := hid (show we.heap[w.heap.size]? = some (.cells #[.int .u8 (x.k : Int), .int .u8 (x.n : Int), .int .u32 (x.e : Int), .int .u32 (x.l : Int), .int .u32 (x.t : Int), .int .u32 (x.g : Int), .int .u32 (x.j : Int), .int .u32 (x.v : Int), .int .u8 (x.r : Int), .int .i64 x.c, .int .u32 (x.f : Int), .int .u32 (x.o : Int), .slice A K C] 25 (0, 0)) by rw [hwe]; exact (heap_setCell_other _ _ _ _ (by simp; omega)).trans HXd.out)
  have HB_we := hid (show Below w.heap.size w we by rw [hwe]; exact HBd.out.setCell (by simp; omega) _)
  have HO_we := hid (show Own we wc.heap.size (.slice ad K cp) l by rw [hwe]; exact HOD.out.keeps (set_keeps0 wd wb.heap.size 12 _) (fun k hk e => by have := (HOD.out.lt k hk).1; omega))
  have hs_we : wd.heap.size = we.heap.size := by rw [hwe]; simp
  have HWE := hid hwe
  clear hwe
  rw [← HWE.out]
  go_wp2_with (first | (refine load_st rfl 25 (.tmp 3) rfl wb.heap.size rfl #[.int .u8 (x.k : Int), .int .u8 (x.n : Int), .int .u32 (x.e : Int), .int .u32 (x.l : Int), .int .u32 (x.t : Int), .int .u32 (x.g : Int), .int .u32 (x.j : Int), .int .u32 (x.v : Int), .int .u8 (x.r : Int), .int .i64 x.c, .int .u32 (x.f : Int), .int .u32 (x.o : Int), .slice ad K cp] _ 13 HM_we.out Try.underlying25 size_note rfl ?_) | fail)
  refine (note_yes x ad cp K HKX.out we HXW.out (by rw [HXB.out]; exact HO_we.out.rd) (fun k hk => (HO_we.out.lt k hk).2) HXR.out).mono ?_
  rintro e wf ⟨kv, rfl, hok, hb_wf⟩
  have HM_wf := hid (((hb_wf).block wb.heap.size (by omega)).trans HM_we.out)
  have HX_wf := hid (((hb_wf).block w.heap.size (by omega)).trans HX_we.out)
  have HB_wf := hid (HB_we.out.trans ((hb_wf).mono (by omega)))
  have HO_wf := hid (HO_we.out.below (hb_wf))
  have hs_wf := (hb_wf).size
  have HK_wf := hid hok
  clear hok hb_wf
  go_wp2_with (first | (refine load_st rfl 25 (.tmp 1) rfl w.heap.size rfl #[.int .u8 (x.k : Int), .int .u8 (x.n : Int), .int .u32 (x.e : Int), .int .u32 (x.l : Int), .int .u32 (x.t : Int), .int .u32 (x.g : Int), .int .u32 (x.j : Int), .int .u32 (x.v : Int), .int .u8 (x.r : Int), .int .i64 x.c, .int .u32 (x.f : Int), .int .u32 (x.o : Int), .slice A K C] _ 13 HX_wf.out Try.underlying25 size_note rfl ?_) | fail)
  refine (refnote_yes x A C K HKX.out wf HXW.out (by rw [HXB.out]; exact HRD.out.below HB_wf.out) HXR.out).mono ?_
  rintro e wg ⟨qv, rfl, hoq, hb_wg⟩
  have HM_wg := hid (((hb_wg).block wb.heap.size (by omega)).trans HM_wf.out)
  have HX_wg := hid (((hb_wg).block w.heap.size (by omega)).trans HX_wf.out)
  have HB_wg := hid (HB_wf.out.trans ((hb_wg).mono (by omega)))
  have HO_wg := hid (HO_wf.out.below (hb_wg))
  have hs_wg := (hb_wg).size
  have HK_wg := hid (HK_wf.out.below hb_wg)
  have HQ_wg := hid hoq
  clear hoq hb_wg
  go_wp2_with fail
  refine (same_eq _ _ (Knot.knot x.enc) wg HK_wg.out.rd HQ_wg.out.rd).mono ?_
  rintro e w' ⟨rfl, rfl⟩
  have ca0 : wg.cell? ⟨wb.heap.size, 0, none⟩ = some (.int .u8 (x.k : Int)) := (cell_of_row _ _ _ _ _ _ HM_wg.out).trans rfl
  have ca1 : wg.cell? ⟨wb.heap.size, 1, none⟩ = some (.int .u8 (x.n : Int)) := (cell_of_row _ _ _ _ _ _ HM_wg.out).trans rfl
  have ca2 : wg.cell? ⟨wb.heap.size, 2, none⟩ = some (.int .u32 (x.e : Int)) := (cell_of_row _ _ _ _ _ _ HM_wg.out).trans rfl
  have ca3 : wg.cell? ⟨wb.heap.size, 3, none⟩ = some (.int .u32 (x.l : Int)) := (cell_of_row _ _ _ _ _ _ HM_wg.out).trans rfl
  have ca4 : wg.cell? ⟨wb.heap.size, 4, none⟩ = some (.int .u32 (x.t : Int)) := (cell_of_row _ _ _ _ _ _ HM_wg.out).trans rfl
  have ca5 : wg.cell? ⟨wb.heap.size, 5, none⟩ = some (.int .u32 (x.g : Int)) := (cell_of_row _ _ _ _ _ _ HM_wg.out).trans rfl
  have ca6 : wg.cell? ⟨wb.heap.size, 6, none⟩ = some (.int .u32 (x.j : Int)) := (cell_of_row _ _ _ _ _ _ HM_wg.out).trans rfl
  have ca7 : wg.cell? ⟨wb.heap.size, 7, none⟩ = some (.int .u32 (x.v : Int)) := (cell_of_row _ _ _ _ _ _ HM_wg.out).trans rfl
  have ca8 : wg.cell? ⟨wb.heap.size, 8, none⟩ = some (.int .u8 (x.r : Int)) := (cell_of_row _ _ _ _ _ _ HM_wg.out).trans rfl
  have ca9 : wg.cell? ⟨wb.heap.size, 9, none⟩ = some (.int .i64 x.c) := (cell_of_row _ _ _ _ _ _ HM_wg.out).trans rfl
  have ca10 : wg.cell? ⟨wb.heap.size, 10, none⟩ = some (.int .u32 (x.f : Int)) := (cell_of_row _ _ _ _ _ _ HM_wg.out).trans rfl
  have ca11 : wg.cell? ⟨wb.heap.size, 11, none⟩ = some (.int .u32 (x.o : Int)) := (cell_of_row _ _ _ _ _ _ HM_wg.out).trans rfl
  have ca12 : wg.cell? ⟨wb.heap.size, 12, none⟩ = some (.slice ad K cp) := (cell_of_row _ _ _ _ _ _ HM_wg.out).trans rfl
  have cb0 : wg.cell? ⟨w.heap.size, 0, none⟩ = some (.int .u8 (x.k : Int)) := (cell_of_row _ _ _ _ _ _ HX_wg.out).trans rfl
  have cb1 : wg.cell? ⟨w.heap.size, 1, none⟩ = some (.int .u8 (x.n : Int)) := (cell_of_row _ _ _ _ _ _ HX_wg.out).trans rfl
  have cb2 : wg.cell? ⟨w.heap.size, 2, none⟩ = some (.int .u32 (x.e : Int)) := (cell_of_row _ _ _ _ _ _ HX_wg.out).trans rfl
  have cb3 : wg.cell? ⟨w.heap.size, 3, none⟩ = some (.int .u32 (x.l : Int)) := (cell_of_row _ _ _ _ _ _ HX_wg.out).trans rfl
  have cb4 : wg.cell? ⟨w.heap.size, 4, none⟩ = some (.int .u32 (x.t : Int)) := (cell_of_row _ _ _ _ _ _ HX_wg.out).trans rfl
  have cb5 : wg.cell? ⟨w.heap.size, 5, none⟩ = some (.int .u32 (x.g : Int)) := (cell_of_row _ _ _ _ _ _ HX_wg.out).trans rfl
  have cb6 : wg.cell? ⟨w.heap.size, 6, none⟩ = some (.int .u32 (x.j : Int)) := (cell_of_row _ _ _ _ _ _ HX_wg.out).trans rfl
  have cb7 : wg.cell? ⟨w.heap.size, 7, none⟩ = some (.int .u32 (x.v : Int)) := (cell_of_row _ _ _ _ _ _ HX_wg.out).trans rfl
  have cb8 : wg.cell? ⟨w.heap.size, 8, none⟩ = some (.int .u8 (x.r : Int)) := (cell_of_row _ _ _ _ _ _ HX_wg.out).trans rfl
  have cb9 : wg.cell? ⟨w.heap.size, 9, none⟩ = some (.int .i64 x.c) := (cell_of_row _ _ _ _ _ _ HX_wg.out).trans rfl
  have cb10 : wg.cell? ⟨w.heap.size, 10, none⟩ = some (.int .u32 (x.f : Int)) := (cell_of_row _ _ _ _ _ _ HX_wg.out).trans rfl
  have cb11 : wg.cell? ⟨w.heap.size, 11, none⟩ = some (.int .u32 (x.o : Int)) := (cell_of_row _ _ _ _ _ _ HX_wg.out).trans rfl
  have cb12 : wg.cell? ⟨w.heap.size, 12, none⟩ = some (.slice A K C) := (cell_of_row _ _ _ _ _ _ HX_wg.out).trans rfl
  go_wp2_with fail
  refine (samenote_eq x ad A cp C K wg (by rw [HXB.out]; exact HO_wg.out.rd) (by rw [HXB.out]; exact HRD.out.below HB_wg.out)).mono ?_
  rintro e wh ⟨rfl, hb_wh⟩
  clear ca0 cb0 ca1 cb1 ca2 cb2 ca3 cb3 ca4 cb4 ca5 cb5 ca6 cb6 ca7 cb7 ca8 cb8 ca9 cb9 ca10 cb10 ca11 cb11 ca12 cb12
  have HM_wh := hid (((hb_wh).block wb.heap.size (by omega)).trans HM_wg.out)
  have HX_wh := hid (((hb_wh).block w.heap.size (by omega)).trans HX_wg.out)
  have HB_wh := hid (HB_wg.out.trans ((hb_wh).mono (by omega)))
  have HO_wh := hid (HO_wg.out.below (hb_wh))
  have hs_wh := (hb_wh).size
  have HK_wh := hid (HK_wg.out.below hb_wh)
  clear hb_wh
  go_wp2_with fail
  refine (readnote_any kv (Knot.knot x.enc) wh HK_wh.out.rd HLA.out).mono ?_
  rintro e wi ⟨x', bv, ec, rfl, hans, hxw, hob, hb_wi⟩
  have HM_wi := hid (((hb_wi).block wb.heap.size (by omega)).trans HM_wh.out)
  have HX_wi := hid (((hb_wi).block w.heap.size (by omega)).trans HX_wh.out)
  have HB_wi := hid (HB_wh.out.trans ((hb_wi).mono (by omega)))
  have HO_wi := hid (HO_wh.out.below (hb_wi))
  have hs_wi := (hb_wi).size
  obtain ⟨e1, e2⟩ := Note.Ans.unique Note.N.inj hans ATX.out
  have e1 := e1.symm
  subst e1
  subst e2
  obtain ⟨a2, c2, hbv, _⟩ := hob.rd
  rw [← HKX.out] at hbv
  subst hbv
  have HBV := hid hob
  clear hans hxw hb_wi hob
  have HS1 := hid (heap_alloc_new wi (.cells #[.int .u8 0, .int .u8 0, .int .u32 0, .int .u32 0, .int .u32 0, .int .u32 0, .int .u32 0, .int .u32 0, .int .u8 0, .int .i64 0, .int .u32 0, .int .u32 0, .slice none 0 0] 25))
  obtain ⟨wj, hwj⟩ : ∃ wj, wj = (wi.alloc (.cells #[.int .u8 0, .int .u8 0, .int .u32 0, .int .u32 0, .int .u32 0, .int .u32 0, .int .u32 0, .int .u32 0, .int .u8 0, .int .i64 0, .int .u32 0, .int .u32 0, .slice none 0 0] 25)).setRow wi.heap.size #[.int .u8 (x.k : Int), .int .u8 (x.n : Int), .int .u32 (x.e : Int), .int .u32 (x.l : Int), .int .u32 (x.t : Int), .int .u32 (x.g : Int), .int .u32 (x.j : Int), .int .u32 (x.v : Int), .int .u8 (x.r : Int), .int .i64 x.c, .int .u32 (x.f : Int), .int .u32 (x.o : Int), .slice a2 K c2] := ⟨_, rfl⟩
  have h1 : Below wi.heap.size wi wj := by rw [hwj]; exact ((Below.refl _ _).alloc (Nat.le_refl _) _).trans (setRow_below _ (Nat.le_refl _))
  have HT_wj := hid (show wj.heap[wi.heap.size]? = some (.cells #[.int .u8 (x.k : Int), .int .u8 (x.n : Int), .int .u32 (x.e : Int), .int .u32 (x.l : Int), .int .u32 (x.t : Int), .int .u32 (x.g : Int), .int .u32 (x.j : Int), .int .u32 (x.v : Int), .int .u8 (x.r : Int), .int .i64 x.c, .int .u32 (x.f : Int), .int .u32 (x.o : Int), .slice a2 K c2] 25 (0, 0)) by rw [hwj]; exact setRow_heap (wi.alloc (.cells #[.int .u8 0, .int .u8 0, .int .u32 0, .int .u32 0, .int .u32 0, .int .u32 0, .int .u32 0, .int .u32 0, .int .u8 0, .int .i64 0, .int .u32 0, .int .u32 0, .slice none 0 0] 25)) wi.heap.size _ _ 25 _ HS1.out)
  have hsj : wi.heap.size + 1 ≤ wj.heap.size := by rw [hwj]; simp
  have HWJ := hid hwj
  clear hwj
  have HM_wj := hid (((h1).block wb.heap.size (by omega)).trans HM_wi.out)
  have HX_wj := hid (((h1).block w.heap.size (by omega)).trans HX_wi.out)
  have HB_wj := hid (HB_wi.out.trans ((h1).mono (by omega)))
  have HO_wj := hid (HO_wi.out.below (h1))
  have hs_wj := (h1).size
  have HBVj := hid (HBV.out.below h1)
  clear h1
  go_upto_region 13 with (first | (refine store_st rfl 25 (.tmp 8) (.tmp 56) rfl wi.heap.size #[.int .u8 (x.k : Int), .int .u8 (x.n : Int), .int .u32 (x.e : Int), .int .u32 (x.l : Int), .int .u32 (x.t : Int), .int .u32 (x.g : Int), .int .u32 (x.j : Int), .int .u32 (x.v : Int), .int .u8 (x.r : Int), .int .i64 x.c, .int .u32 (x.f : Int), .int .u32 (x.o : Int), .slice a2 K c2] rfl rfl #[.int .u8 0, .int .u8 0, .int .u32 0, .int .u32 0, .int .u32 0, .int .u32 0, .int .u32 0, .int .u32 0, .int .u8 0, .int .i64 0, .int .u32 0, .int .u32 0, .slice none 0 0] 13 HS1.out size_note rfl rfl (by simp [Value.oneCell']) ?_) | fail)
  rw [← HWJ.out]
  have ca0 : wj.cell? ⟨wi.heap.size, 0, none⟩ = some (.int .u8 (x.k : Int)) := (cell_of_row _ _ _ _ _ _ HT_wj.out).trans rfl
  have ca1 : wj.cell? ⟨wi.heap.size, 1, none⟩ = some (.int .u8 (x.n : Int)) := (cell_of_row _ _ _ _ _ _ HT_wj.out).trans rfl
  have ca2 : wj.cell? ⟨wi.heap.size, 2, none⟩ = some (.int .u32 (x.e : Int)) := (cell_of_row _ _ _ _ _ _ HT_wj.out).trans rfl
  have ca3 : wj.cell? ⟨wi.heap.size, 3, none⟩ = some (.int .u32 (x.l : Int)) := (cell_of_row _ _ _ _ _ _ HT_wj.out).trans rfl
  have ca4 : wj.cell? ⟨wi.heap.size, 4, none⟩ = some (.int .u32 (x.t : Int)) := (cell_of_row _ _ _ _ _ _ HT_wj.out).trans rfl
  have ca5 : wj.cell? ⟨wi.heap.size, 5, none⟩ = some (.int .u32 (x.g : Int)) := (cell_of_row _ _ _ _ _ _ HT_wj.out).trans rfl
  have ca6 : wj.cell? ⟨wi.heap.size, 6, none⟩ = some (.int .u32 (x.j : Int)) := (cell_of_row _ _ _ _ _ _ HT_wj.out).trans rfl
  have ca7 : wj.cell? ⟨wi.heap.size, 7, none⟩ = some (.int .u32 (x.v : Int)) := (cell_of_row _ _ _ _ _ _ HT_wj.out).trans rfl
  have ca8 : wj.cell? ⟨wi.heap.size, 8, none⟩ = some (.int .u8 (x.r : Int)) := (cell_of_row _ _ _ _ _ _ HT_wj.out).trans rfl
  have ca9 : wj.cell? ⟨wi.heap.size, 9, none⟩ = some (.int .i64 x.c) := (cell_of_row _ _ _ _ _ _ HT_wj.out).trans rfl
  have ca10 : wj.cell? ⟨wi.heap.size, 10, none⟩ = some (.int .u32 (x.f : Int)) := (cell_of_row _ _ _ _ _ _ HT_wj.out).trans rfl
  have ca11 : wj.cell? ⟨wi.heap.size, 11, none⟩ = some (.int .u32 (x.o : Int)) := (cell_of_row _ _ _ _ _ _ HT_wj.out).trans rfl
  have ca12 : wj.cell? ⟨wi.heap.size, 12, none⟩ = some (.slice a2 K c2) := (cell_of_row _ _ _ _ _ _ HT_wj.out).trans rfl
  have cb0 : wj.cell? ⟨w.heap.size, 0, none⟩ = some (.int .u8 (x.k : Int)) := (cell_of_row _ _ _ _ _ _ HX_wj.out).trans rfl
  have cb1 : wj.cell? ⟨w.heap.size, 1, none⟩ = some (.int .u8 (x.n : Int)) := (cell_of_row _ _ _ _ _ _ HX_wj.out).trans rfl
  have cb2 : wj.cell? ⟨w.heap.size, 2, none⟩ = some (.int .u32 (x.e : Int)) := (cell_of_row _ _ _ _ _ _ HX_wj.out).trans rfl
  have cb3 : wj.cell? ⟨w.heap.size, 3, none⟩ = some (.int .u32 (x.l : Int)) := (cell_of_row _ _ _ _ _ _ HX_wj.out).trans rfl
  have cb4 : wj.cell? ⟨w.heap.size, 4, none⟩ = some (.int .u32 (x.t : Int)) := (cell_of_row _ _ _ _ _ _ HX_wj.out).trans rfl
  have cb5 : wj.cell? ⟨w.heap.size, 5, none⟩ = some (.int .u32 (x.g : Int)) := (cell_of_row _ _ _ _ _ _ HX_wj.out).trans rfl
  have cb6 : wj.cell? ⟨w.heap.size, 6, none⟩ = some (.int .u32 (x.j : Int)) := (cell_of_row _ _ _ _ _ _ HX_wj.out).trans rfl
  have cb7 : wj.cell? ⟨w.heap.size, 7, none⟩ = some (.int .u32 (x.v : Int)) := (cell_of_row _ _ _ _ _ _ HX_wj.out).trans rfl
  have cb8 : wj.cell? ⟨w.heap.size, 8, none⟩ = some (.int .u8 (x.r : Int)) := (cell_of_row _ _ _ _ _ _ HX_wj.out).trans rfl
  have cb9 : wj.cell? ⟨w.heap.size, 9, none⟩ = some (.int .i64 x.c) := (cell_of_row _ _ _ _ _ _ HX_wj.out).trans rfl
  have cb10 : wj.cell? ⟨w.heap.size, 10, none⟩ = some (.int .u32 (x.f : Int)) := (cell_of_row _ _ _ _ _ _ HX_wj.out).trans rfl
  have cb11 : wj.cell? ⟨w.heap.size, 11, none⟩ = some (.int .u32 (x.o : Int)) := (cell_of_row _ _ _ _ _ _ HX_wj.out).trans rfl
  have cb12 : wj.cell? ⟨w.heap.size, 12, none⟩ = some (.slice A K C) := (cell_of_row _ _ _ _ _ _ HX_wj.out).trans rfl
  go_wp2_with fail
  refine (samenote_eq x a2 A c2 C K wj HBVj.out.rd (by rw [HXB.out]; exact HRD.out.below HB_wj.out)).mono ?_
  rintro e wk ⟨rfl, hb_wk⟩
  clear ca0 cb0 ca1 cb1 ca2 cb2 ca3 cb3 ca4 cb4 ca5 cb5 ca6 cb6 ca7 cb7 ca8 cb8 ca9 cb9 ca10 cb10 ca11 cb11 ca12 cb12
  go_wp2_with fail
  go_ret
  exact ⟨rfl, HB_wj.out.trans (hb_wk.mono (by omega))⟩

set_option maxRecDepth 100000 in
set_option maxHeartbeats 8000000 in
theorem nn_some_no (x : Note.N) (A : Option Addr) (C : Nat) (K : Nat) (l : List UInt8) (w : World) (hC : C ≤ 9223372036854775807) (hKC : K ≤ C) (hK3 : K ≤ 1100) (hK : K = l.length) (hxb : x.b = l) (hx : x.wf) (hrd : Rd w (.slice A K C) l) (hxr : x.right = false) :
    Calls Try.prog 3 #[.agg #[.int .u8 (x.k : Int), .int .u8 (x.n : Int), .int .u32 (x.e : Int), .int .u32 (x.l : Int), .int .u32 (x.t : Int), .int .u32 (x.g : Int), .int .u32 (x.j : Int), .int .u32 (x.v : Int), .int .u8 (x.r : Int), .int .i64 x.c, .int .u32 (x.f : Int), .int .u32 (x.o : Int), .slice A K C]] w fun e w' => e = .returned (.bool true) ∧ Below w.heap.size w w' := by
  have HRD := hid hrd
  have HK := hid hK
  have HXW := hid hx
  have HXR := hid hxr
  have HXB := hid hxb
  have HKX := hid (show K = x.b.length by rw [hxb]; exact hK)
  have HK2 : K ≤ 1100 := by omega
  skip
  clear hrd hK hx hxr hxb
  go_enter Try.func3, Try.ntmps3
  go_wp2_with fail
  refine (awake4_any _).mono ?_
  rintro e wa ⟨rfl, hba⟩
  have hsa := hba.size
  simp at hsa
  have HXa := hid ((hba.block w.heap.size (by simp)).trans (heap_alloc_new w (.cells #[.int .u8 (x.k : Int), .int .u8 (x.n : Int), .int .u32 (x.e : Int), .int .u32 (x.l : Int), .int .u32 (x.t : Int), .int .u32 (x.g : Int), .int .u32 (x.j : Int), .int .u32 (x.v : Int), .int .u8 (x.r : Int), .int .i64 x.c, .int .u32 (x.f : Int), .int .u32 (x.o : Int), .slice A K C] 25)))
  have HBa := hid (((Below.refl w.heap.size w).alloc (Nat.le_refl _) _).trans (hba.mono (by simp)))
  clear hba
  have hc6 : wa.cell? ⟨w.heap.size, 12, none⟩ = some (.slice A K C) := (cell_of_row _ _ _ _ _ _ HXa.out).trans rfl
  have hf6 : wa.frozen? ⟨w.heap.size, 12, none⟩ = false := frozen_of_row _ _ _ _ _ HXa.out
  obtain ⟨wb, hwb⟩ : ∃ wb, wb = wa.setCell ⟨w.heap.size, 12, none⟩ (.slice A K C) := ⟨_, rfl⟩
  have HXb := hid (show wb.heap[w.heap.size]? = some (.cells #[.int .u8 (x.k : Int), .int .u8 (x.n : Int), .int .u32 (x.e : Int), .int .u32 (x.l : Int), .int .u32 (x.t : Int), .int .u32 (x.g : Int), .int .u32 (x.j : Int), .int .u32 (x.v : Int), .int .u8 (x.r : Int), .int .i64 x.c, .int .u32 (x.f : Int), .int .u32 (x.o : Int), .slice A K C] 25 (0, 0)) by rw [hwb]; exact heap_setCell_same _ _ _ _ _ _ HXa.out)
  have HBb := hid (show Below w.heap.size w wb by rw [hwb]; exact HBa.out.setCell (by simp) _)
  have hsb : w.heap.size + 1 ≤ wb.heap.size := by rw [hwb]; simpa [World.setCell] using hsa
  have HWB := hid hwb
  clear hwb
  go_upto_region 4 with (fail)
  rw [← HWB.out]
  clear hc6 hf6
  have HA1 := hid (heap_alloc_new wb (.cells #[.int .u8 0, .int .u8 0, .int .u32 0, .int .u32 0, .int .u32 0, .int .u32 0, .int .u32 0, .int .u32 0, .int .u8 0, .int .i64 0, .int .u32 0, .int .u32 0, .slice none 0 0] 25))
  have HXb1 := hid ((Below.heap_alloc wb (.cells #[.int .u8 0, .int .u8 0, .int .u32 0, .int .u32 0, .int .u32 0, .int .u32 0, .int .u32 0, .int .u32 0, .int .u8 0, .int .i64 0, .int .u32 0, .int .u32 0, .slice none 0 0] 25) w.heap.size (by omega)).trans HXb.out)
  obtain ⟨wc, hwc⟩ : ∃ wc, wc = (wb.alloc (.cells #[.int .u8 0, .int .u8 0, .int .u32 0, .int .u32 0, .int .u32 0, .int .u32 0, .int .u32 0, .int .u32 0, .int .u8 0, .int .i64 0, .int .u32 0, .int .u32 0, .slice none 0 0] 25)).setRow wb.heap.size #[.int .u8 (x.k : Int), .int .u8 (x.n : Int), .int .u32 (x.e : Int), .int .u32 (x.l : Int), .int .u32 (x.t : Int), .int .u32 (x.g : Int), .int .u32 (x.j : Int), .int .u32 (x.v : Int), .int .u8 (x.r : Int), .int .i64 x.c, .int .u32 (x.f : Int), .int .u32 (x.o : Int), .slice A K C] := ⟨_, rfl⟩
  have h1 : Below wb.heap.size wb wc := by rw [hwc]; exact ((Below.refl _ _).alloc (Nat.le_refl _) _).trans (setRow_below _ (Nat.le_refl _))
  have HMc := hid (show wc.heap[wb.heap.size]? = some (.cells #[.int .u8 (x.k : Int), .int .u8 (x.n : Int), .int .u32 (x.e : Int), .int .u32 (x.l : Int), .int .u32 (x.t : Int), .int .u32 (x.g : Int), .int .u32 (x.j : Int), .int .u32 (x.v : Int), .int .u8 (x.r : Int), .int .i64 x.c, .int .u32 (x.f : Int), .int .u32 (x.o : Int), .slice A K C] 25 (0, 0)) by rw [hwc]; exact setRow_heap (wb.alloc (.cells #[.int .u8 0, .int .u8 0, .int .u32 0, .int .u32 0, .int .u32 0, .int .u32 0, .int .u32 0, .int .u32 0, .int .u8 0, .int .i64 0, .int .u32 0, .int .u32 0, .slice none 0 0] 25)) wb.heap.size _ _ 25 _ HA1.out)
  have hsc : wb.heap.size + 1 ≤ wc.heap.size := by rw [hwc]; simp
  have HWC := hid hwc
  have HXc := hid ((h1.block w.heap.size (by omega)).trans HXb.out)
  have HBc := hid (HBb.out.trans (h1.mono (by omega)))
  clear hwc h1
  go_upto_region 5 with (first | (refine load_st rfl 25 (.tmp 1) rfl w.heap.size rfl #[.int .u8 (x.k : Int), .int .u8 (x.n : Int), .int .u32 (x.e : Int), .int .u32 (x.l : Int), .int .u32 (x.t : Int), .int .u32 (x.g : Int), .int .u32 (x.j : Int), .int .u32 (x.v : Int), .int .u8 (x.r : Int), .int .i64 x.c, .int .u32 (x.f : Int), .int .u32 (x.o : Int), .slice A K C] _ 13 HXb.out Try.underlying25 size_note rfl ?_) | (refine store_st rfl 25 (.tmp 3) (.tmp 20) rfl wb.heap.size #[.int .u8 (x.k : Int), .int .u8 (x.n : Int), .int .u32 (x.e : Int), .int .u32 (x.l : Int), .int .u32 (x.t : Int), .int .u32 (x.g : Int), .int .u32 (x.j : Int), .int .u32 (x.v : Int), .int .u8 (x.r : Int), .int .i64 x.c, .int .u32 (x.f : Int), .int .u32 (x.o : Int), .slice A K C] rfl rfl #[.int .u8 0, .int .u8 0, .int .u32 0, .int .u32 0, .int .u32 0, .int .u32 0, .int .u32 0, .int .u32 0, .int .u8 0, .int .i64 0, .int .u32 0, .int .u32 0, .slice none 0 0] 13 HA1.out size_note rfl rfl (by simp [Value.oneCell']) ?_) | fail)
  rw [← HWC.out]
  have hc6 : wc.cell? ⟨w.heap.size, 12, none⟩ = some (.slice A K C) := (cell_of_row _ _ _ _ _ _ HXc.out).trans rfl
  have hc6e : (wc.alloc (.cells #[] 5)).cell? ⟨w.heap.size, 12, none⟩ = some (.slice A K C) := by exact (((Below.refl wc.heap.size wc).alloc (Nat.le_refl _) (.cells #[] 5)).cell (p := ⟨w.heap.size, 12, none⟩) (show w.heap.size < wc.heap.size by omega)).trans hc6
  have HRDc := hid ((HRD.out.below HBc.out).alloc (.cells #[] 5))
  have HOE := hid (Own.empty wc wc.heap.size (Nat.le_refl _))
  go_upto_region 6 with (first | (at_builtin; go_must (refine appk rfl (.tmp 21) (.tmp 23) rfl wc.heap.size (.slice (some ⟨wc.heap.size, 0, none⟩) 0 0) _ [] l l K rfl rfl HOE.out HRDc.out (by have := HK.out; simp <;> omega) rfl (by have := HK.out; simp <;> omega) (by simp) ?_); intro ad cp wd hod hgd; obtain ⟨hbd, hXd, hsd⟩ := step_keepB (base := w.heap.size) (wd := wc) (we := wd) (o := .cells #[] 5) (v := .slice (some ⟨wc.heap.size, 0, none⟩) 0 0) HBc.out (Nat.le_refl _) (by omega) (fun k hk => by have : wc.heap.size = k := Option.some.inj hk; omega) hgd HXc.out; obtain ⟨_, hMd, _⟩ := step_keepB (base := wb.heap.size) (wd := wc) (we := wd) (o := .cells #[] 5) (v := .slice (some ⟨wc.heap.size, 0, none⟩) 0 0) (Below.refl _ wc) (by omega) (by omega) (fun k hk => by have : wc.heap.size = k := Option.some.inj hk; omega) hgd HMc.out; have hm6 : wd.cell? ⟨wb.heap.size, 12, none⟩ = some (.slice A K C) := (cell_of_row _ _ _ _ _ _ hMd).trans rfl; have hmf : wd.frozen? ⟨wb.heap.size, 12, none⟩ = false := frozen_of_row _ _ _ _ _ hMd; have HOD := hid hod; have HXd := hid hXd; have HMd := hid hMd; have HBd := hid hbd; clear hod hgd hbd hXd hMd) | fail)
  clear hm6 hmf hc6 hc6e
  obtain ⟨we, hwe⟩ : ∃ we, we = wd.setCell ⟨wb.heap.size, 12, none⟩ (.slice ad K cp) := ⟨_, rfl⟩
  have HM_we := hid (show we.heap[wb.heap.size]? = some (.cells #[.int .u8 (x.k : Int), .int .u8 (x.n : Int), .int .u32 (x.e : Int), .int .u32 (x.l : Int), .int .u32 (x.t : Int), .int .u32 (x.g : Int), .int .u32 (x.j : Int), .int .u32 (x.v : Int), .int .u8 (x.r : Int), .int .i64 x.c, .int .u32 (x.f : Int), .int .u32 (x.o : Int), .slice ad K cp] 25 (0, 0)) by rw [hwe]; exact heap_setCell_same _ _ _ _ _ _ HMd.out)
  have HX_we := hid (show we.heap[w.heap.size]? = some (.cells #[.int .u8 (x.k : Int), .int .u8 (x.n : Int), .int .u32 (x.e : Int), .int .u32 (x.l : Int), .int .u32 (x.t : Int), .int .u32 (x.g : Int), .int .u32 (x.j : Int), .int .u32 (x.v : Int), .int .u8 (x.r : Int), .int .i64 x.c, .int .u32 (x.f : Int), .int .u32 (x.o : Int), .slice A K C] 25 (0, 0)) by rw [hwe]; exact (heap_setCell_other _ _ _ _ (by simp; omega)).trans HXd.out)
  have HB_we := hid (show Below w.heap.size w we by rw [hwe]; exact HBd.out.setCell (by simp; omega) _)
  have HO_we := hid (show Own we wc.heap.size (.slice ad K cp) l by rw [hwe]; exact HOD.out.keeps (set_keeps0 wd wb.heap.size 12 _) (fun k hk e => by have := (HOD.out.lt k hk).1; omega))
  have hs_we : wd.heap.size = we.heap.size := by rw [hwe]; simp
  have HWE := hid hwe
  clear hwe
  rw [← HWE.out]
  go_wp2_with (first | (refine load_st rfl 25 (.tmp 3) rfl wb.heap.size rfl #[.int .u8 (x.k : Int), .int .u8 (x.n : Int), .int .u32 (x.e : Int), .int .u32 (x.l : Int), .int .u32 (x.t : Int), .int .u32 (x.g : Int), .int .u32 (x.j : Int), .int .u32 (x.v : Int), .int .u8 (x.r : Int), .int .i64 x.c, .int .u32 (x.f : Int), .int .u32 (x.o : Int), .slice ad K cp] _ 13 HM_we.out Try.underlying25 size_note rfl ?_) | fail)
  refine (note_no x ad cp K HKX.out HXW.out we HXR.out).mono ?_
  rintro e wf ⟨rfl, hb_wf⟩
  have HM_wf := hid (((hb_wf).block wb.heap.size (by omega)).trans HM_we.out)
  have HX_wf := hid (((hb_wf).block w.heap.size (by omega)).trans HX_we.out)
  have HB_wf := hid (HB_we.out.trans ((hb_wf).mono (by omega)))
  have HO_wf := hid (HO_we.out.below (hb_wf))
  have hs_wf := (hb_wf).size
  clear hb_wf
  go_wp2_with (first | (refine load_st rfl 25 (.tmp 1) rfl w.heap.size rfl #[.int .u8 (x.k : Int), .int .u8 (x.n : Int), .int .u32 (x.e : Int), .int .u32 (x.l : Int), .int .u32 (x.t : Int), .int .u32 (x.g : Int), .int .u32 (x.j : Int), .int .u32 (x.v : Int), .int .u8 (x.r : Int), .int .i64 x.c, .int .u32 (x.f : Int), .int .u32 (x.o : Int), .slice A K C] _ 13 HX_wf.out Try.underlying25 size_note rfl ?_) | fail)
  refine (refnote_no x A C K HKX.out wf HXW.out HXR.out).mono ?_
  rintro e wg ⟨rfl, hb_wg⟩
  have HM_wg := hid (((hb_wg).block wb.heap.size (by omega)).trans HM_wf.out)
  have HX_wg := hid (((hb_wg).block w.heap.size (by omega)).trans HX_wf.out)
  have HB_wg := hid (HB_wf.out.trans ((hb_wg).mono (by omega)))
  have HO_wg := hid (HO_wf.out.below (hb_wg))
  have hs_wg := (hb_wg).size
  clear hb_wg
  go_wp2_with fail
  refine (same_eq _ _ [] wg (Own.nil wg 0).rd (Own.nil wg 0).rd).mono ?_
  rintro e w' ⟨rfl, rfl⟩
  have ca0 : wg.cell? ⟨wb.heap.size, 0, none⟩ = some (.int .u8 (x.k : Int)) := (cell_of_row _ _ _ _ _ _ HM_wg.out).trans rfl
  have ca1 : wg.cell? ⟨wb.heap.size, 1, none⟩ = some (.int .u8 (x.n : Int)) := (cell_of_row _ _ _ _ _ _ HM_wg.out).trans rfl
  have ca2 : wg.cell? ⟨wb.heap.size, 2, none⟩ = some (.int .u32 (x.e : Int)) := (cell_of_row _ _ _ _ _ _ HM_wg.out).trans rfl
  have ca3 : wg.cell? ⟨wb.heap.size, 3, none⟩ = some (.int .u32 (x.l : Int)) := (cell_of_row _ _ _ _ _ _ HM_wg.out).trans rfl
  have ca4 : wg.cell? ⟨wb.heap.size, 4, none⟩ = some (.int .u32 (x.t : Int)) := (cell_of_row _ _ _ _ _ _ HM_wg.out).trans rfl
  have ca5 : wg.cell? ⟨wb.heap.size, 5, none⟩ = some (.int .u32 (x.g : Int)) := (cell_of_row _ _ _ _ _ _ HM_wg.out).trans rfl
  have ca6 : wg.cell? ⟨wb.heap.size, 6, none⟩ = some (.int .u32 (x.j : Int)) := (cell_of_row _ _ _ _ _ _ HM_wg.out).trans rfl
  have ca7 : wg.cell? ⟨wb.heap.size, 7, none⟩ = some (.int .u32 (x.v : Int)) := (cell_of_row _ _ _ _ _ _ HM_wg.out).trans rfl
  have ca8 : wg.cell? ⟨wb.heap.size, 8, none⟩ = some (.int .u8 (x.r : Int)) := (cell_of_row _ _ _ _ _ _ HM_wg.out).trans rfl
  have ca9 : wg.cell? ⟨wb.heap.size, 9, none⟩ = some (.int .i64 x.c) := (cell_of_row _ _ _ _ _ _ HM_wg.out).trans rfl
  have ca10 : wg.cell? ⟨wb.heap.size, 10, none⟩ = some (.int .u32 (x.f : Int)) := (cell_of_row _ _ _ _ _ _ HM_wg.out).trans rfl
  have ca11 : wg.cell? ⟨wb.heap.size, 11, none⟩ = some (.int .u32 (x.o : Int)) := (cell_of_row _ _ _ _ _ _ HM_wg.out).trans rfl
  have ca12 : wg.cell? ⟨wb.heap.size, 12, none⟩ = some (.slice ad K cp) := (cell_of_row _ _ _ _ _ _ HM_wg.out).trans rfl
  have cb0 : wg.cell? ⟨w.heap.size, 0, none⟩ = some (.int .u8 (x.k : Int)) := (cell_of_row _ _ _ _ _ _ HX_wg.out).trans rfl
  have cb1 : wg.cell? ⟨w.heap.size, 1, none⟩ = some (.int .u8 (x.n : Int)) := (cell_of_row _ _ _ _ _ _ HX_wg.out).trans rfl
  have cb2 : wg.cell? ⟨w.heap.size, 2, none⟩ = some (.int .u32 (x.e : Int)) := (cell_of_row _ _ _ _ _ _ HX_wg.out).trans rfl
  have cb3 : wg.cell? ⟨w.heap.size, 3, none⟩ = some (.int .u32 (x.l : Int)) := (cell_of_row _ _ _ _ _ _ HX_wg.out).trans rfl
  have cb4 : wg.cell? ⟨w.heap.size, 4, none⟩ = some (.int .u32 (x.t : Int)) := (cell_of_row _ _ _ _ _ _ HX_wg.out).trans rfl
  have cb5 : wg.cell? ⟨w.heap.size, 5, none⟩ = some (.int .u32 (x.g : Int)) := (cell_of_row _ _ _ _ _ _ HX_wg.out).trans rfl
  have cb6 : wg.cell? ⟨w.heap.size, 6, none⟩ = some (.int .u32 (x.j : Int)) := (cell_of_row _ _ _ _ _ _ HX_wg.out).trans rfl
  have cb7 : wg.cell? ⟨w.heap.size, 7, none⟩ = some (.int .u32 (x.v : Int)) := (cell_of_row _ _ _ _ _ _ HX_wg.out).trans rfl
  have cb8 : wg.cell? ⟨w.heap.size, 8, none⟩ = some (.int .u8 (x.r : Int)) := (cell_of_row _ _ _ _ _ _ HX_wg.out).trans rfl
  have cb9 : wg.cell? ⟨w.heap.size, 9, none⟩ = some (.int .i64 x.c) := (cell_of_row _ _ _ _ _ _ HX_wg.out).trans rfl
  have cb10 : wg.cell? ⟨w.heap.size, 10, none⟩ = some (.int .u32 (x.f : Int)) := (cell_of_row _ _ _ _ _ _ HX_wg.out).trans rfl
  have cb11 : wg.cell? ⟨w.heap.size, 11, none⟩ = some (.int .u32 (x.o : Int)) := (cell_of_row _ _ _ _ _ _ HX_wg.out).trans rfl
  have cb12 : wg.cell? ⟨w.heap.size, 12, none⟩ = some (.slice A K C) := (cell_of_row _ _ _ _ _ _ HX_wg.out).trans rfl
  go_wp2_with fail
  refine (samenote_eq x ad A cp C K wg (by rw [HXB.out]; exact HO_wg.out.rd) (by rw [HXB.out]; exact HRD.out.below HB_wg.out)).mono ?_
  rintro e wh ⟨rfl, hb_wh⟩
  clear ca0 cb0 ca1 cb1 ca2 cb2 ca3 cb3 ca4 cb4 ca5 cb5 ca6 cb6 ca7 cb7 ca8 cb8 ca9 cb9 ca10 cb10 ca11 cb11 ca12 cb12
  go_wp2_with fail
  go_ret
  exact ⟨rfl, HB_wg.out.trans (hb_wh.mono (by omega))⟩

set_option maxRecDepth 100000 in
set_option maxHeartbeats 8000000 in
theorem nn_many_yes (x : Note.N) (A : Option Addr) (C : Nat) (L0 : Nat) (hn : 1100 < L0) (l : List UInt8) (w : World) (hC : C ≤ 9223372036854775807) (hKC : L0 ≤ C) (hK : 1100 = l.length) (hxb : x.b = l) (hx : x.wf) (hrd : Rd w (.slice A 1100 C) l) (hxr : x.right = true) :
    Calls Try.prog 3 #[.agg #[.int .u8 (x.k : Int), .int .u8 (x.n : Int), .int .u32 (x.e : Int), .int .u32 (x.l : Int), .int .u32 (x.t : Int), .int .u32 (x.g : Int), .int .u32 (x.j : Int), .int .u32 (x.v : Int), .int .u8 (x.r : Int), .int .i64 x.c, .int .u32 (x.f : Int), .int .u32 (x.o : Int), .slice A L0 C]] w fun e w' => e = .returned (.bool true) ∧ Below w.heap.size w w' := by
  have HRD := hid hrd
  have HK := hid hK
  have HXW := hid hx
  have HXR := hid hxr
  have HXB := hid hxb
  have HKX := hid (show 1100 = x.b.length by rw [hxb]; exact hK)
  have HK2 : 1100 ≤ 1100 := by omega
  have ATX := hid (show Note.Ans Note.N.ok Note.N.enc Note.N.zero (Knot.knot x.enc) x 0 from .inr (.inl ⟨Knot.uerr_knot _ (x.enc_length HXR.out), ⟨hx, hxr⟩, Knot.utext_knot _ (x.enc_length HXR.out), rfl⟩))
  have HLA := hid (show (Knot.knot x.enc).length ≤ 100000 by rw [Knot.knot_length]; have := x.enc_length HXR.out; omega)
  have hn1 : (1100 : Int) < (L0 : Int) := by omega
  clear hrd hK hx hxr hxb
  go_enter Try.func3, Try.ntmps3
  go_wp2_with fail
  refine (awake4_any _).mono ?_
  rintro e wa ⟨rfl, hba⟩
  have hsa := hba.size
  simp at hsa
  have HXa := hid ((hba.block w.heap.size (by simp)).trans (heap_alloc_new w (.cells #[.int .u8 (x.k : Int), .int .u8 (x.n : Int), .int .u32 (x.e : Int), .int .u32 (x.l : Int), .int .u32 (x.t : Int), .int .u32 (x.g : Int), .int .u32 (x.j : Int), .int .u32 (x.v : Int), .int .u8 (x.r : Int), .int .i64 x.c, .int .u32 (x.f : Int), .int .u32 (x.o : Int), .slice A L0 C] 25)))
  have HBa := hid (((Below.refl w.heap.size w).alloc (Nat.le_refl _) _).trans (hba.mono (by simp)))
  clear hba
  have hc6 : wa.cell? ⟨w.heap.size, 12, none⟩ = some (.slice A L0 C) := (cell_of_row _ _ _ _ _ _ HXa.out).trans rfl
  have hf6 : wa.frozen? ⟨w.heap.size, 12, none⟩ = false := frozen_of_row _ _ _ _ _ HXa.out
  obtain ⟨wb, hwb⟩ : ∃ wb, wb = wa.setCell ⟨w.heap.size, 12, none⟩ (.slice A 1100 C) := ⟨_, rfl⟩
  have HXb := hid (show wb.heap[w.heap.size]? = some (.cells #[.int .u8 (x.k : Int), .int .u8 (x.n : Int), .int .u32 (x.e : Int), .int .u32 (x.l : Int), .int .u32 (x.t : Int), .int .u32 (x.g : Int), .int .u32 (x.j : Int), .int .u32 (x.v : Int), .int .u8 (x.r : Int), .int .i64 x.c, .int .u32 (x.f : Int), .int .u32 (x.o : Int), .slice A 1100 C] 25 (0, 0)) by rw [hwb]; exact heap_setCell_same _ _ _ _ _ _ HXa.out)
  have HBb := hid (show Below w.heap.size w wb by rw [hwb]; exact HBa.out.setCell (by simp) _)
  have hsb : w.heap.size + 1 ≤ wb.heap.size := by rw [hwb]; simpa [World.setCell] using hsa
  have HWB := hid hwb
  clear hwb
  go_upto_region 4 with (fail)
  rw [← HWB.out]
  clear hc6 hf6
  have HA1 := hid (heap_alloc_new wb (.cells #[.int .u8 0, .int .u8 0, .int .u32 0, .int .u32 0, .int .u32 0, .int .u32 0, .int .u32 0, .int .u32 0, .int .u8 0, .int .i64 0, .int .u32 0, .int .u32 0, .slice none 0 0] 25))
  have HXb1 := hid ((Below.heap_alloc wb (.cells #[.int .u8 0, .int .u8 0, .int .u32 0, .int .u32 0, .int .u32 0, .int .u32 0, .int .u32 0, .int .u32 0, .int .u8 0, .int .i64 0, .int .u32 0, .int .u32 0, .slice none 0 0] 25) w.heap.size (by omega)).trans HXb.out)
  obtain ⟨wc, hwc⟩ : ∃ wc, wc = (wb.alloc (.cells #[.int .u8 0, .int .u8 0, .int .u32 0, .int .u32 0, .int .u32 0, .int .u32 0, .int .u32 0, .int .u32 0, .int .u8 0, .int .i64 0, .int .u32 0, .int .u32 0, .slice none 0 0] 25)).setRow wb.heap.size #[.int .u8 (x.k : Int), .int .u8 (x.n : Int), .int .u32 (x.e : Int), .int .u32 (x.l : Int), .int .u32 (x.t : Int), .int .u32 (x.g : Int), .int .u32 (x.j : Int), .int .u32 (x.v : Int), .int .u8 (x.r : Int), .int .i64 x.c, .int .u32 (x.f : Int), .int .u32 (x.o : Int), .slice A 1100 C] := ⟨_, rfl⟩
  have h1 : Below wb.heap.size wb wc := by rw [hwc]; exact ((Below.refl _ _).alloc (Nat.le_refl _) _).trans (setRow_below _ (Nat.le_refl _))
  have HMc := hid (show wc.heap[wb.heap.size]? = some (.cells #[.int .u8 (x.k : Int), .int .u8 (x.n : Int), .int .u32 (x.e : Int), .int .u32 (x.l : Int), .int .u32 (x.t : Int), .int .u32 (x.g : Int), .int .u32 (x.j : Int), .int .u32 (x.v : Int), .int .u8 (x.r : Int), .int .i64 x.c, .int .u32 (x.f : Int), .int .u32 (x.o : Int), .slice A 1100 C] 25 (0, 0)) by rw [hwc]; exact setRow_heap (wb.alloc (.cells #[.int .u8 0, .int .u8 0, .int .u32 0, .int .u32 0, .int .u32 0, .int .u32 0, .int .u32 0, .int .u32 0, .int .u8 0, .int .i64 0, .int .u32 0, .int .u32 0, .slice none 0 0] 25)) wb.heap.size _ _ 25 _ HA1.out)
  have hsc : wb.heap.size + 1 ≤ wc.heap.size := by rw [hwc]; simp
  have HWC := hid hwc
  have HXc := hid ((h1.block w.heap.size (by omega)).trans HXb.out)
  have HBc := hid (HBb.out.trans (h1.mono (by omega)))
  clear hwc h1
  go_upto_region 5 with (first | (refine load_st rfl 25 (.tmp 1) rfl w.heap.size rfl #[.int .u8 (x.k : Int), .int .u8 (x.n : Int), .int .u32 (x.e : Int), .int .u32 (x.l : Int), .int .u32 (x.t : Int), .int .u32 (x.g : Int), .int .u32 (x.j : Int), .int .u32 (x.v : Int), .int .u8 (x.r : Int), .int .i64 x.c, .int .u32 (x.f : Int), .int .u32 (x.o : Int), .slice A 1100 C] _ 13 HXb.out Try.underlying25 size_note rfl ?_) | (refine store_st rfl 25 (.tmp 3) (.tmp 20) rfl wb.heap.size #[.int .u8 (x.k : Int), .int .u8 (x.n : Int), .int .u32 (x.e : Int), .int .u32 (x.l : Int), .int .u32 (x.t : Int), .int .u32 (x.g : Int), .int .u32 (x.j : Int), .int .u32 (x.v : Int), .int .u8 (x.r : Int), .int .i64 x.c, .int .u32 (x.f : Int), .int .u32 (x.o : Int), .slice A 1100 C] rfl rfl #[.int .u8 0, .int .u8 0, .int .u32 0, .int .u32 0, .int .u32 0, .int .u32 0, .int .u32 0, .int .u32 0, .int .u8 0, .int .i64 0, .int .u32 0, .int .u32 0, .slice none 0 0] 13 HA1.out size_note rfl rfl (by simp [Value.oneCell']) ?_) | fail)
  rw [← HWC.out]
  have hc6 : wc.cell? ⟨w.heap.size, 12, none⟩ = some (.slice A 1100 C) := (cell_of_row _ _ _ _ _ _ HXc.out).trans rfl
  have hc6e : (wc.alloc (.cells #[] 5)).cell? ⟨w.heap.size, 12, none⟩ = some (.slice A 1100 C) := by exact (((Below.refl wc.heap.size wc).alloc (Nat.le_refl _) (.cells #[] 5)).cell (p := ⟨w.heap.size, 12, none⟩) (show w.heap.size < wc.heap.size by omega)).trans hc6
  have HRDc := hid ((HRD.out.below HBc.out).alloc (.cells #[] 5))
  have HOE := hid (Own.empty wc wc.heap.size (Nat.le_refl _))
  go_upto_region 6 with (first | (at_builtin; go_must (refine appk rfl (.tmp 21) (.tmp 23) rfl wc.heap.size (.slice (some ⟨wc.heap.size, 0, none⟩) 0 0) _ [] l l 1100 rfl rfl HOE.out HRDc.out (by have := HK.out; simp <;> omega) rfl (by have := HK.out; simp <;> omega) (by simp) ?_); intro ad cp wd hod hgd; obtain ⟨hbd, hXd, hsd⟩ := step_keepB (base := w.heap.size) (wd := wc) (we := wd) (o := .cells #[] 5) (v := .slice (some ⟨wc.heap.size, 0, none⟩) 0 0) HBc.out (Nat.le_refl _) (by omega) (fun k hk => by have : wc.heap.size = k := Option.some.inj hk; omega) hgd HXc.out; obtain ⟨_, hMd, _⟩ := step_keepB (base := wb.heap.size) (wd := wc) (we := wd) (o := .cells #[] 5) (v := .slice (some ⟨wc.heap.size, 0, none⟩) 0 0) (Below.refl _ wc) (by omega) (by omega) (fun k hk => by have : wc.heap.size = k := Option.some.inj hk; omega) hgd HMc.out; have hm6 : wd.cell? ⟨wb.heap.size, 12, none⟩ = some (.slice A 1100 C) := (cell_of_row _ _ _ _ _ _ hMd).trans rfl; have hmf : wd.frozen? ⟨wb.heap.size, 12, none⟩ = false := frozen_of_row _ _ _ _ _ hMd; have HOD := hid hod; have HXd := hid hXd; have HMd := hid hMd; have HBd := hid hbd; clear hod hgd hbd hXd hMd) | fail)
  clear hm6 hmf hc6 hc6e
  obtain ⟨we, hwe⟩ : ∃ we, we = wd.setCell ⟨wb.heap.size, 12, none⟩ (.slice ad 1100 cp) := ⟨_, rfl⟩
  have HM_we := hid (show we.heap[wb.heap.size]? = some (.cells #[.int .u8 (x.k : Int), .int .u8 (x.n : Int), .int .u32 (x.e : Int), .int .u32 (x.l : Int), .int .u32 (x.t : Int), .int .u32 (x.g : Int), .int .u32 (x.j : Int), .int .u32 (x.v : Int), .int .u8 (x.r : Int), .int .i64 x.c, .int .u32 (x.f : Int), .int .u32 (x.o : Int), .slice ad 1100 cp] 25 (0, 0)) by rw [hwe]; exact heap_setCell_same _ _ _ _ _ _ HMd.out)
  have HX_we := hid (show we.heap[w.heap.size]? = some (.cells #[.int .u8 (x.k : Int), .int .u8 (x.n : Int), .int .u32 (x.e : Int), .int .u32 (x.l : Int), .int .u32 (x.t : Int), .int .u32 (x.g : Int), .int .u32 (x.j : Int), .int .u32 (x.v : Int), .int .u8 (x.r : Int), .int .i64 x.c, .int .u32 (x.f : Int), .int .u32 (x.o : Int), .slice A 1100 C] 25 (0, 0)) by rw [hwe]; exact (heap_setCell_other _ _ _ _ (by simp; omega)).trans HXd.out)
  have HB_we := hid (show Below w.heap.size w we by rw [hwe]; exact HBd.out.setCell (by simp; omega) _)
  have HO_we := hid (show Own we wc.heap.size (.slice ad 1100 cp) l by rw [hwe]; exact HOD.out.keeps (set_keeps0 wd wb.heap.size 12 _) (fun k hk e => by have := (HOD.out.lt k hk).1; omega))
  have hs_we : wd.heap.size = we.heap.size := by rw [hwe]; simp
  have HWE := hid hwe
  clear hwe
  rw [← HWE.out]
  go_wp2_with (first | (refine load_st rfl 25 (.tmp 3) rfl wb.heap.size rfl #[.int .u8 (x.k : Int), .int .u8 (x.n : Int), .int .u32 (x.e : Int), .int .u32 (x.l : Int), .int .u32 (x.t : Int), .int .u32 (x.g : Int), .int .u32 (x.j : Int), .int .u32 (x.v : Int), .int .u8 (x.r : Int), .int .i64 x.c, .int .u32 (x.f : Int), .int .u32 (x.o : Int), .slice ad 1100 cp] _ 13 HM_we.out Try.underlying25 size_note rfl ?_) | fail)
  refine (note_yes x ad cp 1100 HKX.out we HXW.out (by rw [HXB.out]; exact HO_we.out.rd) (fun k hk => (HO_we.out.lt k hk).2) HXR.out).mono ?_
  rintro e wf ⟨kv, rfl, hok, hb_wf⟩
  have HM_wf := hid (((hb_wf).block wb.heap.size (by omega)).trans HM_we.out)
  have HX_wf := hid (((hb_wf).block w.heap.size (by omega)).trans HX_we.out)
  have HB_wf := hid (HB_we.out.trans ((hb_wf).mono (by omega)))
  have HO_wf := hid (HO_we.out.below (hb_wf))
  have hs_wf := (hb_wf).size
  have HK_wf := hid hok
  clear hok hb_wf
  go_wp2_with (first | (refine load_st rfl 25 (.tmp 1) rfl w.heap.size rfl #[.int .u8 (x.k : Int), .int .u8 (x.n : Int), .int .u32 (x.e : Int), .int .u32 (x.l : Int), .int .u32 (x.t : Int), .int .u32 (x.g : Int), .int .u32 (x.j : Int), .int .u32 (x.v : Int), .int .u8 (x.r : Int), .int .i64 x.c, .int .u32 (x.f : Int), .int .u32 (x.o : Int), .slice A 1100 C] _ 13 HX_wf.out Try.underlying25 size_note rfl ?_) | fail)
  refine (refnote_yes x A C 1100 HKX.out wf HXW.out (by rw [HXB.out]; exact HRD.out.below HB_wf.out) HXR.out).mono ?_
  rintro e wg ⟨qv, rfl, hoq, hb_wg⟩
  have HM_wg := hid (((hb_wg).block wb.heap.size (by omega)).trans HM_wf.out)
  have HX_wg := hid (((hb_wg).block w.heap.size (by omega)).trans HX_wf.out)
  have HB_wg := hid (HB_wf.out.trans ((hb_wg).mono (by omega)))
  have HO_wg := hid (HO_wf.out.below (hb_wg))
  have hs_wg := (hb_wg).size
  have HK_wg := hid (HK_wf.out.below hb_wg)
  have HQ_wg := hid hoq
  clear hoq hb_wg
  go_wp2_with fail
  refine (same_eq _ _ (Knot.knot x.enc) wg HK_wg.out.rd HQ_wg.out.rd).mono ?_
  rintro e w' ⟨rfl, rfl⟩
  have ca0 : wg.cell? ⟨wb.heap.size, 0, none⟩ = some (.int .u8 (x.k : Int)) := (cell_of_row _ _ _ _ _ _ HM_wg.out).trans rfl
  have ca1 : wg.cell? ⟨wb.heap.size, 1, none⟩ = some (.int .u8 (x.n : Int)) := (cell_of_row _ _ _ _ _ _ HM_wg.out).trans rfl
  have ca2 : wg.cell? ⟨wb.heap.size, 2, none⟩ = some (.int .u32 (x.e : Int)) := (cell_of_row _ _ _ _ _ _ HM_wg.out).trans rfl
  have ca3 : wg.cell? ⟨wb.heap.size, 3, none⟩ = some (.int .u32 (x.l : Int)) := (cell_of_row _ _ _ _ _ _ HM_wg.out).trans rfl
  have ca4 : wg.cell? ⟨wb.heap.size, 4, none⟩ = some (.int .u32 (x.t : Int)) := (cell_of_row _ _ _ _ _ _ HM_wg.out).trans rfl
  have ca5 : wg.cell? ⟨wb.heap.size, 5, none⟩ = some (.int .u32 (x.g : Int)) := (cell_of_row _ _ _ _ _ _ HM_wg.out).trans rfl
  have ca6 : wg.cell? ⟨wb.heap.size, 6, none⟩ = some (.int .u32 (x.j : Int)) := (cell_of_row _ _ _ _ _ _ HM_wg.out).trans rfl
  have ca7 : wg.cell? ⟨wb.heap.size, 7, none⟩ = some (.int .u32 (x.v : Int)) := (cell_of_row _ _ _ _ _ _ HM_wg.out).trans rfl
  have ca8 : wg.cell? ⟨wb.heap.size, 8, none⟩ = some (.int .u8 (x.r : Int)) := (cell_of_row _ _ _ _ _ _ HM_wg.out).trans rfl
  have ca9 : wg.cell? ⟨wb.heap.size, 9, none⟩ = some (.int .i64 x.c) := (cell_of_row _ _ _ _ _ _ HM_wg.out).trans rfl
  have ca10 : wg.cell? ⟨wb.heap.size, 10, none⟩ = some (.int .u32 (x.f : Int)) := (cell_of_row _ _ _ _ _ _ HM_wg.out).trans rfl
  have ca11 : wg.cell? ⟨wb.heap.size, 11, none⟩ = some (.int .u32 (x.o : Int)) := (cell_of_row _ _ _ _ _ _ HM_wg.out).trans rfl
  have ca12 : wg.cell? ⟨wb.heap.size, 12, none⟩ = some (.slice ad 1100 cp) := (cell_of_row _ _ _ _ _ _ HM_wg.out).trans rfl
  have cb0 : wg.cell? ⟨w.heap.size, 0, none⟩ = some (.int .u8 (x.k : Int)) := (cell_of_row _ _ _ _ _ _ HX_wg.out).trans rfl
  have cb1 : wg.cell? ⟨w.heap.size, 1, none⟩ = some (.int .u8 (x.n : Int)) := (cell_of_row _ _ _ _ _ _ HX_wg.out).trans rfl
  have cb2 : wg.cell? ⟨w.heap.size, 2, none⟩ = some (.int .u32 (x.e : Int)) := (cell_of_row _ _ _ _ _ _ HX_wg.out).trans rfl
  have cb3 : wg.cell? ⟨w.heap.size, 3, none⟩ = some (.int .u32 (x.l : Int)) := (cell_of_row _ _ _ _ _ _ HX_wg.out).trans rfl
  have cb4 : wg.cell? ⟨w.heap.size, 4, none⟩ = some (.int .u32 (x.t : Int)) := (cell_of_row _ _ _ _ _ _ HX_wg.out).trans rfl
  have cb5 : wg.cell? ⟨w.heap.size, 5, none⟩ = some (.int .u32 (x.g : Int)) := (cell_of_row _ _ _ _ _ _ HX_wg.out).trans rfl
  have cb6 : wg.cell? ⟨w.heap.size, 6, none⟩ = some (.int .u32 (x.j : Int)) := (cell_of_row _ _ _ _ _ _ HX_wg.out).trans rfl
  have cb7 : wg.cell? ⟨w.heap.size, 7, none⟩ = some (.int .u32 (x.v : Int)) := (cell_of_row _ _ _ _ _ _ HX_wg.out).trans rfl
  have cb8 : wg.cell? ⟨w.heap.size, 8, none⟩ = some (.int .u8 (x.r : Int)) := (cell_of_row _ _ _ _ _ _ HX_wg.out).trans rfl
  have cb9 : wg.cell? ⟨w.heap.size, 9, none⟩ = some (.int .i64 x.c) := (cell_of_row _ _ _ _ _ _ HX_wg.out).trans rfl
  have cb10 : wg.cell? ⟨w.heap.size, 10, none⟩ = some (.int .u32 (x.f : Int)) := (cell_of_row _ _ _ _ _ _ HX_wg.out).trans rfl
  have cb11 : wg.cell? ⟨w.heap.size, 11, none⟩ = some (.int .u32 (x.o : Int)) := (cell_of_row _ _ _ _ _ _ HX_wg.out).trans rfl
  have cb12 : wg.cell? ⟨w.heap.size, 12, none⟩ = some (.slice A 1100 C) := (cell_of_row _ _ _ _ _ _ HX_wg.out).trans rfl
  go_wp2_with fail
  refine (samenote_eq x ad A cp C 1100 wg (by rw [HXB.out]; exact HO_wg.out.rd) (by rw [HXB.out]; exact HRD.out.below HB_wg.out)).mono ?_
  rintro e wh ⟨rfl, hb_wh⟩
  clear ca0 cb0 ca1 cb1 ca2 cb2 ca3 cb3 ca4 cb4 ca5 cb5 ca6 cb6 ca7 cb7 ca8 cb8 ca9 cb9 ca10 cb10 ca11 cb11 ca12 cb12
  have HM_wh := hid (((hb_wh).block wb.heap.size (by omega)).trans HM_wg.out)
  have HX_wh := hid (((hb_wh).block w.heap.size (by omega)).trans HX_wg.out)
  have HB_wh := hid (HB_wg.out.trans ((hb_wh).mono (by omega)))
  have HO_wh := hid (HO_wg.out.below (hb_wh))
  have hs_wh := (hb_wh).size
  have HK_wh := hid (HK_wg.out.below hb_wh)
  clear hb_wh
  go_wp2_with fail
  refine (readnote_any kv (Knot.knot x.enc) wh HK_wh.out.rd HLA.out).mono ?_
  rintro e wi ⟨x', bv, ec, rfl, hans, hxw, hob, hb_wi⟩
  have HM_wi := hid (((hb_wi).block wb.heap.size (by omega)).trans HM_wh.out)
  have HX_wi := hid (((hb_wi).block w.heap.size (by omega)).trans HX_wh.out)
  have HB_wi := hid (HB_wh.out.trans ((hb_wi).mono (by omega)))
  have HO_wi := hid (HO_wh.out.below (hb_wi))
  have hs_wi := (hb_wi).size
  obtain ⟨e1, e2⟩ := Note.Ans.unique Note.N.inj hans ATX.out
  have e1 := e1.symm
  subst e1
  subst e2
  obtain ⟨a2, c2, hbv, _⟩ := hob.rd
  rw [← HKX.out] at hbv
  subst hbv
  have HBV := hid hob
  clear hans hxw hb_wi hob
  have HS1 := hid (heap_alloc_new wi (.cells #[.int .u8 0, .int .u8 0, .int .u32 0, .int .u32 0, .int .u32 0, .int .u32 0, .int .u32 0, .int .u32 0, .int .u8 0, .int .i64 0, .int .u32 0, .int .u32 0, .slice none 0 0] 25))
  obtain ⟨wj, hwj⟩ : ∃ wj, wj = (wi.alloc (.cells #[.int .u8 0, .int .u8 0, .int .u32 0, .int .u32 0, .int .u32 0, .int .u32 0, .int .u32 0, .int .u32 0, .int .u8 0, .int .i64 0, .int .u32 0, .int .u32 0, .slice none 0 0] 25)).setRow wi.heap.size #[.int .u8 (x.k : Int), .int .u8 (x.n : Int), .int .u32 (x.e : Int), .int .u32 (x.l : Int), .int .u32 (x.t : Int), .int .u32 (x.g : Int), .int .u32 (x.j : Int), .int .u32 (x.v : Int), .int .u8 (x.r : Int), .int .i64 x.c, .int .u32 (x.f : Int), .int .u32 (x.o : Int), .slice a2 1100 c2] := ⟨_, rfl⟩
  have h1 : Below wi.heap.size wi wj := by rw [hwj]; exact ((Below.refl _ _).alloc (Nat.le_refl _) _).trans (setRow_below _ (Nat.le_refl _))
  have HT_wj := hid (show wj.heap[wi.heap.size]? = some (.cells #[.int .u8 (x.k : Int), .int .u8 (x.n : Int), .int .u32 (x.e : Int), .int .u32 (x.l : Int), .int .u32 (x.t : Int), .int .u32 (x.g : Int), .int .u32 (x.j : Int), .int .u32 (x.v : Int), .int .u8 (x.r : Int), .int .i64 x.c, .int .u32 (x.f : Int), .int .u32 (x.o : Int), .slice a2 1100 c2] 25 (0, 0)) by rw [hwj]; exact setRow_heap (wi.alloc (.cells #[.int .u8 0, .int .u8 0, .int .u32 0, .int .u32 0, .int .u32 0, .int .u32 0, .int .u32 0, .int .u32 0, .int .u8 0, .int .i64 0, .int .u32 0, .int .u32 0, .slice none 0 0] 25)) wi.heap.size _ _ 25 _ HS1.out)
  have hsj : wi.heap.size + 1 ≤ wj.heap.size := by rw [hwj]; simp
  have HWJ := hid hwj
  clear hwj
  have HM_wj := hid (((h1).block wb.heap.size (by omega)).trans HM_wi.out)
  have HX_wj := hid (((h1).block w.heap.size (by omega)).trans HX_wi.out)
  have HB_wj := hid (HB_wi.out.trans ((h1).mono (by omega)))
  have HO_wj := hid (HO_wi.out.below (h1))
  have hs_wj := (h1).size
  have HBVj := hid (HBV.out.below h1)
  clear h1
  go_upto_region 13 with (first | (refine store_st rfl 25 (.tmp 8) (.tmp 56) rfl wi.heap.size #[.int .u8 (x.k : Int), .int .u8 (x.n : Int), .int .u32 (x.e : Int), .int .u32 (x.l : Int), .int .u32 (x.t : Int), .int .u32 (x.g : Int), .int .u32 (x.j : Int), .int .u32 (x.v : Int), .int .u8 (x.r : Int), .int .i64 x.c, .int .u32 (x.f : Int), .int .u32 (x.o : Int), .slice a2 1100 c2] rfl rfl #[.int .u8 0, .int .u8 0, .int .u32 0, .int .u32 0, .int .u32 0, .int .u32 0, .int .u32 0, .int .u32 0, .int .u8 0, .int .i64 0, .int .u32 0, .int .u32 0, .slice none 0 0] 13 HS1.out size_note rfl rfl (by simp [Value.oneCell']) ?_) | fail)
  rw [← HWJ.out]
  have ca0 : wj.cell? ⟨wi.heap.size, 0, none⟩ = some (.int .u8 (x.k : Int)) := (cell_of_row _ _ _ _ _ _ HT_wj.out).trans rfl
  have ca1 : wj.cell? ⟨wi.heap.size, 1, none⟩ = some (.int .u8 (x.n : Int)) := (cell_of_row _ _ _ _ _ _ HT_wj.out).trans rfl
  have ca2 : wj.cell? ⟨wi.heap.size, 2, none⟩ = some (.int .u32 (x.e : Int)) := (cell_of_row _ _ _ _ _ _ HT_wj.out).trans rfl
  have ca3 : wj.cell? ⟨wi.heap.size, 3, none⟩ = some (.int .u32 (x.l : Int)) := (cell_of_row _ _ _ _ _ _ HT_wj.out).trans rfl
  have ca4 : wj.cell? ⟨wi.heap.size, 4, none⟩ = some (.int .u32 (x.t : Int)) := (cell_of_row _ _ _ _ _ _ HT_wj.out).trans rfl
  have ca5 : wj.cell? ⟨wi.heap.size, 5, none⟩ = some (.int .u32 (x.g : Int)) := (cell_of_row _ _ _ _ _ _ HT_wj.out).trans rfl
  have ca6 : wj.cell? ⟨wi.heap.size, 6, none⟩ = some (.int .u32 (x.j : Int)) := (cell_of_row _ _ _ _ _ _ HT_wj.out).trans rfl
  have ca7 : wj.cell? ⟨wi.heap.size, 7, none⟩ = some (.int .u32 (x.v : Int)) := (cell_of_row _ _ _ _ _ _ HT_wj.out).trans rfl
  have ca8 : wj.cell? ⟨wi.heap.size, 8, none⟩ = some (.int .u8 (x.r : Int)) := (cell_of_row _ _ _ _ _ _ HT_wj.out).trans rfl
  have ca9 : wj.cell? ⟨wi.heap.size, 9, none⟩ = some (.int .i64 x.c) := (cell_of_row _ _ _ _ _ _ HT_wj.out).trans rfl
  have ca10 : wj.cell? ⟨wi.heap.size, 10, none⟩ = some (.int .u32 (x.f : Int)) := (cell_of_row _ _ _ _ _ _ HT_wj.out).trans rfl
  have ca11 : wj.cell? ⟨wi.heap.size, 11, none⟩ = some (.int .u32 (x.o : Int)) := (cell_of_row _ _ _ _ _ _ HT_wj.out).trans rfl
  have ca12 : wj.cell? ⟨wi.heap.size, 12, none⟩ = some (.slice a2 1100 c2) := (cell_of_row _ _ _ _ _ _ HT_wj.out).trans rfl
  have cb0 : wj.cell? ⟨w.heap.size, 0, none⟩ = some (.int .u8 (x.k : Int)) := (cell_of_row _ _ _ _ _ _ HX_wj.out).trans rfl
  have cb1 : wj.cell? ⟨w.heap.size, 1, none⟩ = some (.int .u8 (x.n : Int)) := (cell_of_row _ _ _ _ _ _ HX_wj.out).trans rfl
  have cb2 : wj.cell? ⟨w.heap.size, 2, none⟩ = some (.int .u32 (x.e : Int)) := (cell_of_row _ _ _ _ _ _ HX_wj.out).trans rfl
  have cb3 : wj.cell? ⟨w.heap.size, 3, none⟩ = some (.int .u32 (x.l : Int)) := (cell_of_row _ _ _ _ _ _ HX_wj.out).trans rfl
  have cb4 : wj.cell? ⟨w.heap.size, 4, none⟩ = some (.int .u32 (x.t : Int)) := (cell_of_row _ _ _ _ _ _ HX_wj.out).trans rfl
  have cb5 : wj.cell? ⟨w.heap.size, 5, none⟩ = some (.int .u32 (x.g : Int)) := (cell_of_row _ _ _ _ _ _ HX_wj.out).trans rfl
  have cb6 : wj.cell? ⟨w.heap.size, 6, none⟩ = some (.int .u32 (x.j : Int)) := (cell_of_row _ _ _ _ _ _ HX_wj.out).trans rfl
  have cb7 : wj.cell? ⟨w.heap.size, 7, none⟩ = some (.int .u32 (x.v : Int)) := (cell_of_row _ _ _ _ _ _ HX_wj.out).trans rfl
  have cb8 : wj.cell? ⟨w.heap.size, 8, none⟩ = some (.int .u8 (x.r : Int)) := (cell_of_row _ _ _ _ _ _ HX_wj.out).trans rfl
  have cb9 : wj.cell? ⟨w.heap.size, 9, none⟩ = some (.int .i64 x.c) := (cell_of_row _ _ _ _ _ _ HX_wj.out).trans rfl
  have cb10 : wj.cell? ⟨w.heap.size, 10, none⟩ = some (.int .u32 (x.f : Int)) := (cell_of_row _ _ _ _ _ _ HX_wj.out).trans rfl
  have cb11 : wj.cell? ⟨w.heap.size, 11, none⟩ = some (.int .u32 (x.o : Int)) := (cell_of_row _ _ _ _ _ _ HX_wj.out).trans rfl
  have cb12 : wj.cell? ⟨w.heap.size, 12, none⟩ = some (.slice A 1100 C) := (cell_of_row _ _ _ _ _ _ HX_wj.out).trans rfl
  go_wp2_with fail
  refine (samenote_eq x a2 A c2 C 1100 wj HBVj.out.rd (by rw [HXB.out]; exact HRD.out.below HB_wj.out)).mono ?_
  rintro e wk ⟨rfl, hb_wk⟩
  clear ca0 cb0 ca1 cb1 ca2 cb2 ca3 cb3 ca4 cb4 ca5 cb5 ca6 cb6 ca7 cb7 ca8 cb8 ca9 cb9 ca10 cb10 ca11 cb11 ca12 cb12
  go_wp2_with fail
  go_ret
  exact ⟨rfl, HB_wj.out.trans (hb_wk.mono (by omega))⟩

set_option maxRecDepth 100000 in
set_option maxHeartbeats 8000000 in
theorem nn_many_no (x : Note.N) (A : Option Addr) (C : Nat) (L0 : Nat) (hn : 1100 < L0) (l : List UInt8) (w : World) (hC : C ≤ 9223372036854775807) (hKC : L0 ≤ C) (hK : 1100 = l.length) (hxb : x.b = l) (hx : x.wf) (hrd : Rd w (.slice A 1100 C) l) (hxr : x.right = false) :
    Calls Try.prog 3 #[.agg #[.int .u8 (x.k : Int), .int .u8 (x.n : Int), .int .u32 (x.e : Int), .int .u32 (x.l : Int), .int .u32 (x.t : Int), .int .u32 (x.g : Int), .int .u32 (x.j : Int), .int .u32 (x.v : Int), .int .u8 (x.r : Int), .int .i64 x.c, .int .u32 (x.f : Int), .int .u32 (x.o : Int), .slice A L0 C]] w fun e w' => e = .returned (.bool true) ∧ Below w.heap.size w w' := by
  have HRD := hid hrd
  have HK := hid hK
  have HXW := hid hx
  have HXR := hid hxr
  have HXB := hid hxb
  have HKX := hid (show 1100 = x.b.length by rw [hxb]; exact hK)
  have HK2 : 1100 ≤ 1100 := by omega
  have hn1 : (1100 : Int) < (L0 : Int) := by omega
  clear hrd hK hx hxr hxb
  go_enter Try.func3, Try.ntmps3
  go_wp2_with fail
  refine (awake4_any _).mono ?_
  rintro e wa ⟨rfl, hba⟩
  have hsa := hba.size
  simp at hsa
  have HXa := hid ((hba.block w.heap.size (by simp)).trans (heap_alloc_new w (.cells #[.int .u8 (x.k : Int), .int .u8 (x.n : Int), .int .u32 (x.e : Int), .int .u32 (x.l : Int), .int .u32 (x.t : Int), .int .u32 (x.g : Int), .int .u32 (x.j : Int), .int .u32 (x.v : Int), .int .u8 (x.r : Int), .int .i64 x.c, .int .u32 (x.f : Int), .int .u32 (x.o : Int), .slice A L0 C] 25)))
  have HBa := hid (((Below.refl w.heap.size w).alloc (Nat.le_refl _) _).trans (hba.mono (by simp)))
  clear hba
  have hc6 : wa.cell? ⟨w.heap.size, 12, none⟩ = some (.slice A L0 C) := (cell_of_row _ _ _ _ _ _ HXa.out).trans rfl
  have hf6 : wa.frozen? ⟨w.heap.size, 12, none⟩ = false := frozen_of_row _ _ _ _ _ HXa.out
  obtain ⟨wb, hwb⟩ : ∃ wb, wb = wa.setCell ⟨w.heap.size, 12, none⟩ (.slice A 1100 C) := ⟨_, rfl⟩
  have HXb := hid (show wb.heap[w.heap.size]? = some (.cells #[.int .u8 (x.k : Int), .int .u8 (x.n : Int), .int .u32 (x.e : Int), .int .u32 (x.l : Int), .int .u32 (x.t : Int), .int .u32 (x.g : Int), .int .u32 (x.j : Int), .int .u32 (x.v : Int), .int .u8 (x.r : Int), .int .i64 x.c, .int .u32 (x.f : Int), .int .u32 (x.o : Int), .slice A 1100 C] 25 (0, 0)) by rw [hwb]; exact heap_setCell_same _ _ _ _ _ _ HXa.out)
  have HBb := hid (show Below w.heap.size w wb by rw [hwb]; exact HBa.out.setCell (by simp) _)
  have hsb : w.heap.size + 1 ≤ wb.heap.size := by rw [hwb]; simpa [World.setCell] using hsa
  have HWB := hid hwb
  clear hwb
  go_upto_region 4 with (fail)
  rw [← HWB.out]
  clear hc6 hf6
  have HA1 := hid (heap_alloc_new wb (.cells #[.int .u8 0, .int .u8 0, .int .u32 0, .int .u32 0, .int .u32 0, .int .u32 0, .int .u32 0, .int .u32 0, .int .u8 0, .int .i64 0, .int .u32 0, .int .u32 0, .slice none 0 0] 25))
  have HXb1 := hid ((Below.heap_alloc wb (.cells #[.int .u8 0, .int .u8 0, .int .u32 0, .int .u32 0, .int .u32 0, .int .u32 0, .int .u32 0, .int .u32 0, .int .u8 0, .int .i64 0, .int .u32 0, .int .u32 0, .slice none 0 0] 25) w.heap.size (by omega)).trans HXb.out)
  obtain ⟨wc, hwc⟩ : ∃ wc, wc = (wb.alloc (.cells #[.int .u8 0, .int .u8 0, .int .u32 0, .int .u32 0, .int .u32 0, .int .u32 0, .int .u32 0, .int .u32 0, .int .u8 0, .int .i64 0, .int .u32 0, .int .u32 0, .slice none 0 0] 25)).setRow wb.heap.size #[.int .u8 (x.k : Int), .int .u8 (x.n : Int), .int .u32 (x.e : Int), .int .u32 (x.l : Int), .int .u32 (x.t : Int), .int .u32 (x.g : Int), .int .u32 (x.j : Int), .int .u32 (x.v : Int), .int .u8 (x.r : Int), .int .i64 x.c, .int .u32 (x.f : Int), .int .u32 (x.o : Int), .slice A 1100 C] := ⟨_, rfl⟩
  have h1 : Below wb.heap.size wb wc := by rw [hwc]; exact ((Below.refl _ _).alloc (Nat.le_refl _) _).trans (setRow_below _ (Nat.le_refl _))
  have HMc := hid (show wc.heap[wb.heap.size]? = some (.cells #[.int .u8 (x.k : Int), .int .u8 (x.n : Int), .int .u32 (x.e : Int), .int .u32 (x.l : Int), .int .u32 (x.t : Int), .int .u32 (x.g : Int), .int .u32 (x.j : Int), .int .u32 (x.v : Int), .int .u8 (x.r : Int), .int .i64 x.c, .int .u32 (x.f : Int), .int .u32 (x.o : Int), .slice A 1100 C] 25 (0, 0)) by rw [hwc]; exact setRow_heap (wb.alloc (.cells #[.int .u8 0, .int .u8 0, .int .u32 0, .int .u32 0, .int .u32 0, .int .u32 0, .int .u32 0, .int .u32 0, .int .u8 0, .int .i64 0, .int .u32 0, .int .u32 0, .slice none 0 0] 25)) wb.heap.size _ _ 25 _ HA1.out)
  have hsc : wb.heap.size + 1 ≤ wc.heap.size := by rw [hwc]; simp
  have HWC := hid hwc
  have HXc := hid ((h1.block w.heap.size (by omega)).trans HXb.out)
  have HBc := hid (HBb.out.trans (h1.mono (by omega)))
  clear hwc h1
  go_upto_region 5 with (first | (refine load_st rfl 25 (.tmp 1) rfl w.heap.size rfl #[.int .u8 (x.k : Int), .int .u8 (x.n : Int), .int .u32 (x.e : Int), .int .u32 (x.l : Int), .int .u32 (x.t : Int), .int .u32 (x.g : Int), .int .u32 (x.j : Int), .int .u32 (x.v : Int), .int .u8 (x.r : Int), .int .i64 x.c, .int .u32 (x.f : Int), .int .u32 (x.o : Int), .slice A 1100 C] _ 13 HXb.out Try.underlying25 size_note rfl ?_) | (refine store_st rfl 25 (.tmp 3) (.tmp 20) rfl wb.heap.size #[.int .u8 (x.k : Int), .int .u8 (x.n : Int), .int .u32 (x.e : Int), .int .u32 (x.l : Int), .int .u32 (x.t : Int), .int .u32 (x.g : Int), .int .u32 (x.j : Int), .int .u32 (x.v : Int), .int .u8 (x.r : Int), .int .i64 x.c, .int .u32 (x.f : Int), .int .u32 (x.o : Int), .slice A 1100 C] rfl rfl #[.int .u8 0, .int .u8 0, .int .u32 0, .int .u32 0, .int .u32 0, .int .u32 0, .int .u32 0, .int .u32 0, .int .u8 0, .int .i64 0, .int .u32 0, .int .u32 0, .slice none 0 0] 13 HA1.out size_note rfl rfl (by simp [Value.oneCell']) ?_) | fail)
  rw [← HWC.out]
  have hc6 : wc.cell? ⟨w.heap.size, 12, none⟩ = some (.slice A 1100 C) := (cell_of_row _ _ _ _ _ _ HXc.out).trans rfl
  have hc6e : (wc.alloc (.cells #[] 5)).cell? ⟨w.heap.size, 12, none⟩ = some (.slice A 1100 C) := by exact (((Below.refl wc.heap.size wc).alloc (Nat.le_refl _) (.cells #[] 5)).cell (p := ⟨w.heap.size, 12, none⟩) (show w.heap.size < wc.heap.size by omega)).trans hc6
  have HRDc := hid ((HRD.out.below HBc.out).alloc (.cells #[] 5))
  have HOE := hid (Own.empty wc wc.heap.size (Nat.le_refl _))
  go_upto_region 6 with (first | (at_builtin; go_must (refine appk rfl (.tmp 21) (.tmp 23) rfl wc.heap.size (.slice (some ⟨wc.heap.size, 0, none⟩) 0 0) _ [] l l 1100 rfl rfl HOE.out HRDc.out (by have := HK.out; simp <;> omega) rfl (by have := HK.out; simp <;> omega) (by simp) ?_); intro ad cp wd hod hgd; obtain ⟨hbd, hXd, hsd⟩ := step_keepB (base := w.heap.size) (wd := wc) (we := wd) (o := .cells #[] 5) (v := .slice (some ⟨wc.heap.size, 0, none⟩) 0 0) HBc.out (Nat.le_refl _) (by omega) (fun k hk => by have : wc.heap.size = k := Option.some.inj hk; omega) hgd HXc.out; obtain ⟨_, hMd, _⟩ := step_keepB (base := wb.heap.size) (wd := wc) (we := wd) (o := .cells #[] 5) (v := .slice (some ⟨wc.heap.size, 0, none⟩) 0 0) (Below.refl _ wc) (by omega) (by omega) (fun k hk => by have : wc.heap.size = k := Option.some.inj hk; omega) hgd HMc.out; have hm6 : wd.cell? ⟨wb.heap.size, 12, none⟩ = some (.slice A 1100 C) := (cell_of_row _ _ _ _ _ _ hMd).trans rfl; have hmf : wd.frozen? ⟨wb.heap.size, 12, none⟩ = false := frozen_of_row _ _ _ _ _ hMd; have HOD := hid hod; have HXd := hid hXd; have HMd := hid hMd; have HBd := hid hbd; clear hod hgd hbd hXd hMd) | fail)
  clear hm6 hmf hc6 hc6e
  obtain ⟨we, hwe⟩ : ∃ we, we = wd.setCell ⟨wb.heap.size, 12, none⟩ (.slice ad 1100 cp) := ⟨_, rfl⟩
  have HM_we := hid (show we.heap[wb.heap.size]? = some (.cells #[.int .u8 (x.k : Int), .int .u8 (x.n : Int), .int .u32 (x.e : Int), .int .u32 (x.l : Int), .int .u32 (x.t : Int), .int .u32 (x.g : Int), .int .u32 (x.j : Int), .int .u32 (x.v : Int), .int .u8 (x.r : Int), .int .i64 x.c, .int .u32 (x.f : Int), .int .u32 (x.o : Int), .slice ad 1100 cp] 25 (0, 0)) by rw [hwe]; exact heap_setCell_same _ _ _ _ _ _ HMd.out)
  have HX_we := hid (show we.heap[w.heap.size]? = some (.cells #[.int .u8 (x.k : Int), .int .u8 (x.n : Int), .int .u32 (x.e : Int), .int .u32 (x.l : Int), .int .u32 (x.t : Int), .int .u32 (x.g : Int), .int .u32 (x.j : Int), .int .u32 (x.v : Int), .int .u8 (x.r : Int), .int .i64 x.c, .int .u32 (x.f : Int), .int .u32 (x.o : Int), .slice A 1100 C] 25 (0, 0)) by rw [hwe]; exact (heap_setCell_other _ _ _ _ (by simp; omega)).trans HXd.out)
  have HB_we := hid (show Below w.heap.size w we by rw [hwe]; exact HBd.out.setCell (by simp; omega) _)
  have HO_we := hid (show Own we wc.heap.size (.slice ad 1100 cp) l by rw [hwe]; exact HOD.out.keeps (set_keeps0 wd wb.heap.size 12 _) (fun k hk e => by have := (HOD.out.lt k hk).1; omega))
  have hs_we : wd.heap.size = we.heap.size := by rw [hwe]; simp
  have HWE := hid hwe
  clear hwe
  rw [← HWE.out]
  go_wp2_with (first | (refine load_st rfl 25 (.tmp 3) rfl wb.heap.size rfl #[.int .u8 (x.k : Int), .int .u8 (x.n : Int), .int .u32 (x.e : Int), .int .u32 (x.l : Int), .int .u32 (x.t : Int), .int .u32 (x.g : Int), .int .u32 (x.j : Int), .int .u32 (x.v : Int), .int .u8 (x.r : Int), .int .i64 x.c, .int .u32 (x.f : Int), .int .u32 (x.o : Int), .slice ad 1100 cp] _ 13 HM_we.out Try.underlying25 size_note rfl ?_) | fail)
  refine (note_no x ad cp 1100 HKX.out HXW.out we HXR.out).mono ?_
  rintro e wf ⟨rfl, hb_wf⟩
  have HM_wf := hid (((hb_wf).block wb.heap.size (by omega)).trans HM_we.out)
  have HX_wf := hid (((hb_wf).block w.heap.size (by omega)).trans HX_we.out)
  have HB_wf := hid (HB_we.out.trans ((hb_wf).mono (by omega)))
  have HO_wf := hid (HO_we.out.below (hb_wf))
  have hs_wf := (hb_wf).size
  clear hb_wf
  go_wp2_with (first | (refine load_st rfl 25 (.tmp 1) rfl w.heap.size rfl #[.int .u8 (x.k : Int), .int .u8 (x.n : Int), .int .u32 (x.e : Int), .int .u32 (x.l : Int), .int .u32 (x.t : Int), .int .u32 (x.g : Int), .int .u32 (x.j : Int), .int .u32 (x.v : Int), .int .u8 (x.r : Int), .int .i64 x.c, .int .u32 (x.f : Int), .int .u32 (x.o : Int), .slice A 1100 C] _ 13 HX_wf.out Try.underlying25 size_note rfl ?_) | fail)
  refine (refnote_no x A C 1100 HKX.out wf HXW.out HXR.out).mono ?_
  rintro e wg ⟨rfl, hb_wg⟩
  have HM_wg := hid (((hb_wg).block wb.heap.size (by omega)).trans HM_wf.out)
  have HX_wg := hid (((hb_wg).block w.heap.size (by omega)).trans HX_wf.out)
  have HB_wg := hid (HB_wf.out.trans ((hb_wg).mono (by omega)))
  have HO_wg := hid (HO_wf.out.below (hb_wg))
  have hs_wg := (hb_wg).size
  clear hb_wg
  go_wp2_with fail
  refine (same_eq _ _ [] wg (Own.nil wg 0).rd (Own.nil wg 0).rd).mono ?_
  rintro e w' ⟨rfl, rfl⟩
  have ca0 : wg.cell? ⟨wb.heap.size, 0, none⟩ = some (.int .u8 (x.k : Int)) := (cell_of_row _ _ _ _ _ _ HM_wg.out).trans rfl
  have ca1 : wg.cell? ⟨wb.heap.size, 1, none⟩ = some (.int .u8 (x.n : Int)) := (cell_of_row _ _ _ _ _ _ HM_wg.out).trans rfl
  have ca2 : wg.cell? ⟨wb.heap.size, 2, none⟩ = some (.int .u32 (x.e : Int)) := (cell_of_row _ _ _ _ _ _ HM_wg.out).trans rfl
  have ca3 : wg.cell? ⟨wb.heap.size, 3, none⟩ = some (.int .u32 (x.l : Int)) := (cell_of_row _ _ _ _ _ _ HM_wg.out).trans rfl
  have ca4 : wg.cell? ⟨wb.heap.size, 4, none⟩ = some (.int .u32 (x.t : Int)) := (cell_of_row _ _ _ _ _ _ HM_wg.out).trans rfl
  have ca5 : wg.cell? ⟨wb.heap.size, 5, none⟩ = some (.int .u32 (x.g : Int)) := (cell_of_row _ _ _ _ _ _ HM_wg.out).trans rfl
  have ca6 : wg.cell? ⟨wb.heap.size, 6, none⟩ = some (.int .u32 (x.j : Int)) := (cell_of_row _ _ _ _ _ _ HM_wg.out).trans rfl
  have ca7 : wg.cell? ⟨wb.heap.size, 7, none⟩ = some (.int .u32 (x.v : Int)) := (cell_of_row _ _ _ _ _ _ HM_wg.out).trans rfl
  have ca8 : wg.cell? ⟨wb.heap.size, 8, none⟩ = some (.int .u8 (x.r : Int)) := (cell_of_row _ _ _ _ _ _ HM_wg.out).trans rfl
  have ca9 : wg.cell? ⟨wb.heap.size, 9, none⟩ = some (.int .i64 x.c) := (cell_of_row _ _ _ _ _ _ HM_wg.out).trans rfl
  have ca10 : wg.cell? ⟨wb.heap.size, 10, none⟩ = some (.int .u32 (x.f : Int)) := (cell_of_row _ _ _ _ _ _ HM_wg.out).trans rfl
  have ca11 : wg.cell? ⟨wb.heap.size, 11, none⟩ = some (.int .u32 (x.o : Int)) := (cell_of_row _ _ _ _ _ _ HM_wg.out).trans rfl
  have ca12 : wg.cell? ⟨wb.heap.size, 12, none⟩ = some (.slice ad 1100 cp) := (cell_of_row _ _ _ _ _ _ HM_wg.out).trans rfl
  have cb0 : wg.cell? ⟨w.heap.size, 0, none⟩ = some (.int .u8 (x.k : Int)) := (cell_of_row _ _ _ _ _ _ HX_wg.out).trans rfl
  have cb1 : wg.cell? ⟨w.heap.size, 1, none⟩ = some (.int .u8 (x.n : Int)) := (cell_of_row _ _ _ _ _ _ HX_wg.out).trans rfl
  have cb2 : wg.cell? ⟨w.heap.size, 2, none⟩ = some (.int .u32 (x.e : Int)) := (cell_of_row _ _ _ _ _ _ HX_wg.out).trans rfl
  have cb3 : wg.cell? ⟨w.heap.size, 3, none⟩ = some (.int .u32 (x.l : Int)) := (cell_of_row _ _ _ _ _ _ HX_wg.out).trans rfl
  have cb4 : wg.cell? ⟨w.heap.size, 4, none⟩ = some (.int .u32 (x.t : Int)) := (cell_of_row _ _ _ _ _ _ HX_wg.out).trans rfl
  have cb5 : wg.cell? ⟨w.heap.size, 5, none⟩ = some (.int .u32 (x.g : Int)) := (cell_of_row _ _ _ _ _ _ HX_wg.out).trans rfl
  have cb6 : wg.cell? ⟨w.heap.size, 6, none⟩ = some (.int .u32 (x.j : Int)) := (cell_of_row _ _ _ _ _ _ HX_wg.out).trans rfl
  have cb7 : wg.cell? ⟨w.heap.size, 7, none⟩ = some (.int .u32 (x.v : Int)) := (cell_of_row _ _ _ _ _ _ HX_wg.out).trans rfl
  have cb8 : wg.cell? ⟨w.heap.size, 8, none⟩ = some (.int .u8 (x.r : Int)) := (cell_of_row _ _ _ _ _ _ HX_wg.out).trans rfl
  have cb9 : wg.cell? ⟨w.heap.size, 9, none⟩ = some (.int .i64 x.c) := (cell_of_row _ _ _ _ _ _ HX_wg.out).trans rfl
  have cb10 : wg.cell? ⟨w.heap.size, 10, none⟩ = some (.int .u32 (x.f : Int)) := (cell_of_row _ _ _ _ _ _ HX_wg.out).trans rfl
  have cb11 : wg.cell? ⟨w.heap.size, 11, none⟩ = some (.int .u32 (x.o : Int)) := (cell_of_row _ _ _ _ _ _ HX_wg.out).trans rfl
  have cb12 : wg.cell? ⟨w.heap.size, 12, none⟩ = some (.slice A 1100 C) := (cell_of_row _ _ _ _ _ _ HX_wg.out).trans rfl
  go_wp2_with fail
  refine (samenote_eq x ad A cp C 1100 wg (by rw [HXB.out]; exact HO_wg.out.rd) (by rw [HXB.out]; exact HRD.out.below HB_wg.out)).mono ?_
  rintro e wh ⟨rfl, hb_wh⟩
  clear ca0 cb0 ca1 cb1 ca2 cb2 ca3 cb3 ca4 cb4 ca5 cb5 ca6 cb6 ca7 cb7 ca8 cb8 ca9 cb9 ca10 cb10 ca11 cb11 ca12 cb12
  go_wp2_with fail
  go_ret
  exact ⟨rfl, HB_wg.out.trans (hb_wh.mono (by omega))⟩

set_option maxHeartbeats 1000000 in
theorem walk (v0 : Value) (w : World) (w0 : IsNote w v0) :
    Calls Try.prog 3 #[v0] w fun e w' => e = .returned (.bool true) ∧ Below w.heap.size w w' := by
  obtain ⟨x, A, L, C, zs, rfl, hx, hr⟩ := w0
  have hc : L ≤ C ∧ C ≤ 9223372036854775807 := by
    obtain ⟨l0, hl0, a0, c0, e0, h1, h2, _⟩ := hr.rd L (Nat.le_refl _)
    simp only [Value.slice.injEq] at e0
    obtain ⟨_, e1, e2⟩ := e0
    unfold maxLen at h2
    omega
  have hx2 : ∀ l : List UInt8, Note.N.wf { x with b := l } := fun l => hx
  by_cases hk : L ≤ 1100
  · obtain ⟨l, hl, hrd⟩ := hr.rd L (Nat.le_refl _)
    by_cases hq : Note.N.right { x with b := l } = true
    · exact nn_some_yes { x with b := l } A C L l w hc.2 hc.1 hk hl.symm rfl (hx2 l) hrd hq
    · exact nn_some_no { x with b := l } A C L l w hc.2 hc.1 hk hl.symm rfl (hx2 l) hrd (by simpa using hq)
  · obtain ⟨l, hl, hrd⟩ := hr.rd 1100 (by omega)
    by_cases hq : Note.N.right { x with b := l } = true
    · exact nn_many_yes { x with b := l } A C L (by omega) l w hc.2 hc.1 hl.symm rfl (hx2 l) hrd hq
    · exact nn_many_no { x with b := l } A C L (by omega) l w hc.2 hc.1 hl.symm rfl (hx2 l) hrd (by simpa using hq)

/-! ### THE ROW's STEP -/
set_option maxRecDepth 100000 in
theorem lifted (os : Os) (started : os.Started) (H : Type) (enc : TypeId × Value → H) :
    ReturnsInHanded {} Try.checked os 3 .any (Rows.noteNotesSpec.pre6 enc Try.prog Try.f3 Rows.noteNotesRow.domain false) (Rows.noteNotesSpec.post enc Try.prog Try.f3 false true false false) := by
  refine returnsInHanded_of_change (C := Try.checked) own started (by kernel_rfl) Try.func3
    (ChangeSpec.witness6 (enc := enc) (C := Try.checked) false ⟨#[], #[.agg #[.int .u8 0, .int .u8 0, .int .u32 0, .int .u32 0, .int .u32 0, .int .u32 0, .int .u32 0, .int .u32 0, .int .u8 0, .int .i64 0, .int .u32 0, .int .u32 0, .slice none 0 0]], []⟩ 8 (by kernel_rfl) (by kernel_rfl) (by kernel_rfl) (by kernel_rfl)) ?_
  intro W base args ds gs before hval0 hW hcnd _
  have hval : ∀ (j : Nat) t v, Try.f3.params[j]? = some t → args[j]? = some v → Value.okWide Try.prog W .any base t v := hval0
  have hW' := hW
  obtain ⟨p, q, hA0, hV, rfl, hfz, hnd⟩ := hW
  have hA : DataW.TrodAll enc Try.prog W 0 (fun _ => true) true Try.f3.params.toList args.toList ds p := hA0
  rw [Try.params3] at hA hval
  obtain ⟨v0, vs0, d0, ds0, p0, q0, hargs, rfl, rfl, h0, r0⟩ := trodAll_cons hA
  obtain ⟨rfl, rfl, rfl⟩ := trodAll_nil r0
  obtain rfl : args = #[v0] := by cases args; simp_all
  obtain ⟨rfl, rfl⟩ := trodVars_none hV
  have k0 := h0
  have lt0 : ∀ x ∈ p0, x.block < W.heap.size := by obtain ⟨m, hm⟩ := k0; exact DataW.trod_lt m _ _ _ hm
  have w0 : IsNote W v0 := isNote_of (hval 0 25 v0 rfl rfl) h0
  clear hA0 hval0
  refine (walk v0 W w0).mono fun e W' ⟨he, bel⟩ => ?_
  subst he
  exact ⟨_, rfl, _, _, _, [], _, [], hW', trodAll_mk1 (shut_bool Try.underlying4 _), (trodAll_cons_mk (Below.trod laidOut (by kernel_rfl) (of_decide_eq_true (by kernel_rfl)) k0 bel lt0) trodAll_mk0), rfl, bel.frame _, fun h => by cases h⟩

theorem over : Rows.noteNotesRow.holds Try.pinned (OpenSpec.ofChange Rows.noteNotesSpec) :=
  OpenClaim.holds_of_wide 3 Try.f3 rfl rfl rfl rfl rfl rfl rfl ⟨rfl, rfl, rfl, rfl, rfl⟩ rfl rfl rfl rfl rfl (by kernel_rfl) Try.func3 (by kernel_rfl)
    (of_decide_eq_true (by kernel_rfl)) (by unfold Func.isWrapper; first | (rw [if_pos (by decide +kernel)]; kernel_rfl) | (rw [if_neg (by decide +kernel)]; exact ⟨rfl, rfl⟩))
    (fun os started H enc _ => lifted os started H enc)

/-- THE STATEMENT -/
theorem noteNotes_holds : Rows.NoteNotesSaid := over
#print axioms noteNotes_holds
end Go.Proofs.Ytafpgglebjllbaa.noteNotes
