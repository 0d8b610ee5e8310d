/-
  For any request and any reply: the bytes that note writes are the document's, or it is refused alike; and each is read again: no condition.
  (The frame behind the walk is the guide's shell, at these parameters.)
-/
import Derived.Test.YtccgpcllebmonabRows
import Derived.WalkKit
import Derived.Test.YtccgpcllebmonabAwake4
import Derived.Test.YtccgpcllebmonabNoteZ
import Derived.Test.YtccgpcllebmonabNoteO
import Derived.ProofKit
import Derived.Deep.Cut
import Derived.OpenShut
import Derived.ShutString
import Derived.ChangeOld
import Derived.Below
namespace Go.Proofs.Ytccgpcllebmonab.noteAsks
open Go.ChangeShapes Go.WideShapes Go.ChangeAt Go.RowKit
open Go.ChangeMaps (open_string shut_string)
set_option linter.unusedVariables false

theorem own : ownKnob Try.prog.godebug = none := by kernel_rfl
theorem laidOut : laidOutB Try.prog = true := by kernel_rfl

theorem Note.Ans.nil {X : Type} {ok : X → Prop} {enc : X → List UInt8} {zero x : X} {e : Int} (h : Note.Ans ok enc zero [] x e) : e = 2 := by
  have h1 : Knot.uerr [] = 2 := by decide
  rcases h with ⟨_, _, a3⟩ | ⟨a1, _⟩ | ⟨a1, _⟩
  · rw [a3, h1]
  · rw [h1] at a1; cases a1
  · rw [h1] at a1; cases a1

set_option maxRecDepth 100000 in
set_option maxHeartbeats 8000000 in
theorem asks_yy (x : Note.Q) (y : Note.R) (w : World) (hx : x.wf) (hy : y.wf) (hxr : x.right = true) (hyr : y.right = true) :
    Calls Try.prog 4 #[.agg #[.int .u8 (x.cl : Int), .int .u32 (x.s : Int), .int .u8 (x.k : Int), .int .u8 (x.t : Int), .int .i64 x.kk, .int .i64 x.w, .int .u32 (x.j : Int)], .agg #[.int .u8 (y.cl : Int), .int .u32 (y.s : Int), .int .i64 y.e, .int .u32 (y.j : Int), .int .u8 (y.st : Int), .int .i64 y.c]] w fun e w' => e = .returned (.bool true) ∧ Below w.heap.size w w' := by
  have HXW := hid hx
  have HYW := hid hy
  have HXR := hid hxr
  have HYR := hid hyr
  have ATX := hid (show Note.Ans Note.Q.ok Note.Q.enc Note.Q.zero (Knot.knot x.enc) x 0 from .inr (.inl ⟨Knot.uerr_knot _ x.enc_length, ⟨hx, hxr⟩, Knot.utext_knot _ x.enc_length, rfl⟩))
  have HLA := hid (show (Knot.knot x.enc).length ≤ 100000 by rw [Knot.knot_length]; have := x.enc_length; omega)
  have ATY := hid (show Note.Ans Note.R.ok Note.R.enc Note.R.zero (Knot.knot y.enc) y 0 from .inr (.inl ⟨Knot.uerr_knot _ y.enc_length, ⟨hy, hyr⟩, Knot.utext_knot _ y.enc_length, rfl⟩))
  have HLC := hid (show (Knot.knot y.enc).length ≤ 100000 by rw [Knot.knot_length]; have := y.enc_length; omega)
  clear hx hy hxr hyr
  go_enter Try.func4, Try.ntmps4
  go_wp2_with fail
  refine (awake4_any _).mono ?_
  rintro e wa ⟨rfl, hba⟩
  have hs_wa := hba.size
  simp at hs_wa
  have HQ_wa := hid ((hba.block w.heap.size (by simp <;> omega)).trans (heap_alloc2_old w (.cells #[.int .u8 (x.cl : Int), .int .u32 (x.s : Int), .int .u8 (x.k : Int), .int .u8 (x.t : Int), .int .i64 x.kk, .int .i64 x.w, .int .u32 (x.j : Int)] 38) (.cells #[.int .u8 (y.cl : Int), .int .u32 (y.s : Int), .int .i64 y.e, .int .u32 (y.j : Int), .int .u8 (y.st : Int), .int .i64 y.c] 40)))
  have HR_wa := hid ((hba.block (w.heap.size + 1) (by simp)).trans (heap_alloc2_new w (.cells #[.int .u8 (x.cl : Int), .int .u32 (x.s : Int), .int .u8 (x.k : Int), .int .u8 (x.t : Int), .int .i64 x.kk, .int .i64 x.w, .int .u32 (x.j : Int)] 38) (.cells #[.int .u8 (y.cl : Int), .int .u32 (y.s : Int), .int .i64 y.e, .int .u32 (y.j : Int), .int .u8 (y.st : Int), .int .i64 y.c] 40)))
  have HB_wa := hid ((((Below.refl w.heap.size w).alloc (Nat.le_refl _) _).alloc (by simp) _).trans (hba.mono (by simp; omega)))
  clear hba
  go_wp2_with (first | (refine load_st rfl 38 (.tmp 2) rfl w.heap.size rfl #[.int .u8 (x.cl : Int), .int .u32 (x.s : Int), .int .u8 (x.k : Int), .int .u8 (x.t : Int), .int .i64 x.kk, .int .i64 x.w, .int .u32 (x.j : Int)] _ 7 HQ_wa.out Try.underlying38 size_request rfl ?_) | fail)
  refine (request_yes x wa HXW.out HXR.out).mono ?_
  rintro e wb ⟨av, rfl, hoa, hb_wb⟩
  have HQ_wb := hid (((hb_wb).block w.heap.size (by omega)).trans HQ_wa.out)
  have HR_wb := hid (((hb_wb).block (w.heap.size + 1) (by omega)).trans HR_wa.out)
  have HB_wb := hid (HB_wa.out.trans ((hb_wb).mono (by omega)))
  have hs_wb := (hb_wb).size
  go_wp2_with (first | (refine load_st rfl 38 (.tmp 2) rfl w.heap.size rfl #[.int .u8 (x.cl : Int), .int .u32 (x.s : Int), .int .u8 (x.k : Int), .int .u8 (x.t : Int), .int .i64 x.kk, .int .i64 x.w, .int .u32 (x.j : Int)] _ 7 HQ_wb.out Try.underlying38 size_request rfl ?_) | fail)
  refine (refrequest_yes x wb HXW.out HXR.out).mono ?_
  rintro e wc ⟨bv, rfl, hob, hb_wc⟩
  have HQ_wc := hid (((hb_wc).block w.heap.size (by omega)).trans HQ_wb.out)
  have HR_wc := hid (((hb_wc).block (w.heap.size + 1) (by omega)).trans HR_wb.out)
  have HB_wc := hid (HB_wb.out.trans ((hb_wc).mono (by omega)))
  have hs_wc := (hb_wc).size
  have ha_wc := hoa.below hb_wc
  go_wp2_with (first | (refine load_st rfl 40 (.tmp 3) rfl (w.heap.size + 1) rfl #[.int .u8 (y.cl : Int), .int .u32 (y.s : Int), .int .i64 y.e, .int .u32 (y.j : Int), .int .u8 (y.st : Int), .int .i64 y.c] _ 6 HR_wc.out Try.underlying40 size_reply rfl ?_) | fail)
  refine (reply_yes y wc HYW.out HYR.out).mono ?_
  rintro e wd ⟨cv, rfl, hoc, hb_wd⟩
  have HQ_wd := hid (((hb_wd).block w.heap.size (by omega)).trans HQ_wc.out)
  have HR_wd := hid (((hb_wd).block (w.heap.size + 1) (by omega)).trans HR_wc.out)
  have HB_wd := hid (HB_wc.out.trans ((hb_wd).mono (by omega)))
  have hs_wd := (hb_wd).size
  go_wp2_with (first | (refine load_st rfl 40 (.tmp 3) rfl (w.heap.size + 1) rfl #[.int .u8 (y.cl : Int), .int .u32 (y.s : Int), .int .i64 y.e, .int .u32 (y.j : Int), .int .u8 (y.st : Int), .int .i64 y.c] _ 6 HR_wd.out Try.underlying40 size_reply rfl ?_) | fail)
  refine (refreply_yes y wd HYW.out HYR.out).mono ?_
  rintro e we ⟨dv, rfl, hod, hb_we⟩
  have HQ_we := hid (((hb_we).block w.heap.size (by omega)).trans HQ_wd.out)
  have HR_we := hid (((hb_we).block (w.heap.size + 1) (by omega)).trans HR_wd.out)
  have HB_we := hid (HB_wd.out.trans ((hb_we).mono (by omega)))
  have hs_we := (hb_we).size
  have hc_we := hoc.below hb_we
  have ha_we := (ha_wc.below hb_wd).below hb_we
  have hb_we2 := (hob.below hb_wd).below hb_we
  have KA := hid ha_we.rd
  have KB := hid hb_we2.rd
  have KC := hid hc_we.rd
  have KD := hid hod.rd
  clear hb_wb hb_wc hb_wd hb_we hoa hob ha_wc ha_we hb_we2 hoc hod hc_we
  go_wp2_with fail
  refine (same_eq _ _ (Knot.knot x.enc) we KA.out KB.out).mono ?_
  rintro e w' ⟨rfl, rfl⟩
  go_wp2_with fail
  refine (same_eq _ _ (Knot.knot y.enc) we KC.out KD.out).mono ?_
  rintro e w' ⟨rfl, rfl⟩
  go_wp2_with fail
  refine (readrequest_any _ (Knot.knot x.enc) we KA.out HLA.out).mono ?_
  rintro e wf ⟨x', ec, rfl, hans, hxw, hb_wf⟩
  have HQ_wf := hid (((hb_wf).block w.heap.size (by omega)).trans HQ_we.out)
  have HR_wf := hid (((hb_wf).block (w.heap.size + 1) (by omega)).trans HR_we.out)
  have HB_wf := hid (HB_we.out.trans ((hb_wf).mono (by omega)))
  have hs_wf := (hb_wf).size
  have KC2 := hid (KC.out.below hb_wf)
  obtain ⟨e1, e2⟩ := Note.Ans.unique Note.Q.inj hans ATX.out
  have e1 := e1.symm
  subst e1
  subst e2
  clear hans hxw hb_wf
  have HS1 := hid (heap_alloc_new wf (.cells #[.int .u8 0, .int .u32 0, .int .u8 0, .int .u8 0, .int .i64 0, .int .i64 0, .int .u32 0] 38))
  obtain ⟨wg, hwg⟩ : ∃ wg, wg = (wf.alloc (.cells #[.int .u8 0, .int .u32 0, .int .u8 0, .int .u8 0, .int .i64 0, .int .i64 0, .int .u32 0] 38)).setRow wf.heap.size #[.int .u8 (x.cl : Int), .int .u32 (x.s : Int), .int .u8 (x.k : Int), .int .u8 (x.t : Int), .int .i64 x.kk, .int .i64 x.w, .int .u32 (x.j : Int)] := ⟨_, rfl⟩
  have h67 : Below wf.heap.size wf wg := by rw [hwg]; exact ((Below.refl _ _).alloc (Nat.le_refl _) _).trans (setRow_below _ (Nat.le_refl _))
  have HT_wg := hid (show wg.heap[wf.heap.size]? = some (.cells #[.int .u8 (x.cl : Int), .int .u32 (x.s : Int), .int .u8 (x.k : Int), .int .u8 (x.t : Int), .int .i64 x.kk, .int .i64 x.w, .int .u32 (x.j : Int)] 38 (0, 0)) by rw [hwg]; exact setRow_heap (wf.alloc (.cells #[.int .u8 0, .int .u32 0, .int .u8 0, .int .u8 0, .int .i64 0, .int .i64 0, .int .u32 0] 38)) wf.heap.size _ _ 38 _ HS1.out)
  have hsg : wf.heap.size + 1 ≤ wg.heap.size := by rw [hwg]; simp
  have HWG := hid hwg
  clear hwg
  have HQ_wg := hid (((h67).block w.heap.size (by omega)).trans HQ_wf.out)
  have HR_wg := hid (((h67).block (w.heap.size + 1) (by omega)).trans HR_wf.out)
  have HB_wg := hid (HB_wf.out.trans ((h67).mono (by omega)))
  have hs_wg := (h67).size
  have KC3 := hid (KC2.out.below h67)
  clear h67
  go_wp2_with (first | (refine store_st rfl 38 (.tmp 13) (.tmp 62) rfl wf.heap.size #[.int .u8 (x.cl : Int), .int .u32 (x.s : Int), .int .u8 (x.k : Int), .int .u8 (x.t : Int), .int .i64 x.kk, .int .i64 x.w, .int .u32 (x.j : Int)] rfl rfl #[.int .u8 0, .int .u32 0, .int .u8 0, .int .u8 0, .int .i64 0, .int .i64 0, .int .u32 0] 7 HS1.out size_request rfl rfl (by simp [Value.oneCell']) ?_) | fail)
  rw [← HWG.out]
  refine (readreply_any _ (Knot.knot y.enc) wg KC3.out HLC.out).mono ?_
  rintro e wh ⟨y', fc, rfl, hans, hyw, hb_wh⟩
  have HQ_wh := hid (((hb_wh).block w.heap.size (by omega)).trans HQ_wg.out)
  have HR_wh := hid (((hb_wh).block (w.heap.size + 1) (by omega)).trans HR_wg.out)
  have HB_wh := hid (HB_wg.out.trans ((hb_wh).mono (by omega)))
  have hs_wh := (hb_wh).size
  have HT_wh := hid ((hb_wh.block wf.heap.size (by omega)).trans HT_wg.out)
  obtain ⟨e1, e2⟩ := Note.Ans.unique Note.R.inj hans ATY.out
  have e1 := e1.symm
  subst e1
  subst e2
  clear hans hyw hb_wh
  have HS2 := hid (heap_alloc_new wh (.cells #[.int .u8 0, .int .u32 0, .int .i64 0, .int .u32 0, .int .u8 0, .int .i64 0] 40))
  obtain ⟨wi, hwi⟩ : ∃ wi, wi = (wh.alloc (.cells #[.int .u8 0, .int .u32 0, .int .i64 0, .int .u32 0, .int .u8 0, .int .i64 0] 40)).setRow wh.heap.size #[.int .u8 (y.cl : Int), .int .u32 (y.s : Int), .int .i64 y.e, .int .u32 (y.j : Int), .int .u8 (y.st : Int), .int .i64 y.c] := ⟨_, rfl⟩
  have h89 : Below wh.heap.size wh wi := by rw [hwi]; exact ((Below.refl _ _).alloc (Nat.le_refl _) _).trans (setRow_below _ (Nat.le_refl _))
  have HV_wi := hid (show wi.heap[wh.heap.size]? = some (.cells #[.int .u8 (y.cl : Int), .int .u32 (y.s : Int), .int .i64 y.e, .int .u32 (y.j : Int), .int .u8 (y.st : Int), .int .i64 y.c] 40 (0, 0)) by rw [hwi]; exact setRow_heap (wh.alloc (.cells #[.int .u8 0, .int .u32 0, .int .i64 0, .int .u32 0, .int .u8 0, .int .i64 0] 40)) wh.heap.size _ _ 40 _ HS2.out)
  have hsi : wh.heap.size + 1 ≤ wi.heap.size := by rw [hwi]; simp
  have HWI := hid hwi
  clear hwi
  have HQ_wi := hid (((h89).block w.heap.size (by omega)).trans HQ_wh.out)
  have HR_wi := hid (((h89).block (w.heap.size + 1) (by omega)).trans HR_wh.out)
  have HB_wi := hid (HB_wh.out.trans ((h89).mono (by omega)))
  have hs_wi := (h89).size
  have HT_wi := hid ((h89.block wf.heap.size (by omega)).trans HT_wh.out)
  clear h89
  go_upto_region 11 with (first | (refine store_st rfl 40 (.tmp 15) (.tmp 67) rfl wh.heap.size #[.int .u8 (y.cl : Int), .int .u32 (y.s : Int), .int .i64 y.e, .int .u32 (y.j : Int), .int .u8 (y.st : Int), .int .i64 y.c] rfl rfl #[.int .u8 0, .int .u32 0, .int .i64 0, .int .u32 0, .int .u8 0, .int .i64 0] 6 HS2.out size_reply rfl rfl (by simp [Value.oneCell']) ?_) | fail)
  rw [← HWI.out]
  have ca0 : wi.cell? ⟨w.heap.size, 0, none⟩ = some (.int .u8 (x.cl : Int)) := (cell_of_row _ _ _ _ _ _ HQ_wi.out).trans rfl
  have ca1 : wi.cell? ⟨w.heap.size, 1, none⟩ = some (.int .u32 (x.s : Int)) := (cell_of_row _ _ _ _ _ _ HQ_wi.out).trans rfl
  have ca2 : wi.cell? ⟨w.heap.size, 2, none⟩ = some (.int .u8 (x.k : Int)) := (cell_of_row _ _ _ _ _ _ HQ_wi.out).trans rfl
  have ca3 : wi.cell? ⟨w.heap.size, 3, none⟩ = some (.int .u8 (x.t : Int)) := (cell_of_row _ _ _ _ _ _ HQ_wi.out).trans rfl
  have ca4 : wi.cell? ⟨w.heap.size, 4, none⟩ = some (.int .i64 x.kk) := (cell_of_row _ _ _ _ _ _ HQ_wi.out).trans rfl
  have ca5 : wi.cell? ⟨w.heap.size, 5, none⟩ = some (.int .i64 x.w) := (cell_of_row _ _ _ _ _ _ HQ_wi.out).trans rfl
  have ca6 : wi.cell? ⟨w.heap.size, 6, none⟩ = some (.int .u32 (x.j : Int)) := (cell_of_row _ _ _ _ _ _ HQ_wi.out).trans rfl
  have cb0 : wi.cell? ⟨wf.heap.size, 0, none⟩ = some (.int .u8 (x.cl : Int)) := (cell_of_row _ _ _ _ _ _ HT_wi.out).trans rfl
  have cb1 : wi.cell? ⟨wf.heap.size, 1, none⟩ = some (.int .u32 (x.s : Int)) := (cell_of_row _ _ _ _ _ _ HT_wi.out).trans rfl
  have cb2 : wi.cell? ⟨wf.heap.size, 2, none⟩ = some (.int .u8 (x.k : Int)) := (cell_of_row _ _ _ _ _ _ HT_wi.out).trans rfl
  have cb3 : wi.cell? ⟨wf.heap.size, 3, none⟩ = some (.int .u8 (x.t : Int)) := (cell_of_row _ _ _ _ _ _ HT_wi.out).trans rfl
  have cb4 : wi.cell? ⟨wf.heap.size, 4, none⟩ = some (.int .i64 x.kk) := (cell_of_row _ _ _ _ _ _ HT_wi.out).trans rfl
  have cb5 : wi.cell? ⟨wf.heap.size, 5, none⟩ = some (.int .i64 x.w) := (cell_of_row _ _ _ _ _ _ HT_wi.out).trans rfl
  have cb6 : wi.cell? ⟨wf.heap.size, 6, none⟩ = some (.int .u32 (x.j : Int)) := (cell_of_row _ _ _ _ _ _ HT_wi.out).trans rfl
  have cc0 : wi.cell? ⟨w.heap.size + 1, 0, none⟩ = some (.int .u8 (y.cl : Int)) := (cell_of_row _ _ _ _ _ _ HR_wi.out).trans rfl
  have cc1 : wi.cell? ⟨w.heap.size + 1, 1, none⟩ = some (.int .u32 (y.s : Int)) := (cell_of_row _ _ _ _ _ _ HR_wi.out).trans rfl
  have cc2 : wi.cell? ⟨w.heap.size + 1, 2, none⟩ = some (.int .i64 y.e) := (cell_of_row _ _ _ _ _ _ HR_wi.out).trans rfl
  have cc3 : wi.cell? ⟨w.heap.size + 1, 3, none⟩ = some (.int .u32 (y.j : Int)) := (cell_of_row _ _ _ _ _ _ HR_wi.out).trans rfl
  have cc4 : wi.cell? ⟨w.heap.size + 1, 4, none⟩ = some (.int .u8 (y.st : Int)) := (cell_of_row _ _ _ _ _ _ HR_wi.out).trans rfl
  have cc5 : wi.cell? ⟨w.heap.size + 1, 5, none⟩ = some (.int .i64 y.c) := (cell_of_row _ _ _ _ _ _ HR_wi.out).trans rfl
  have cd0 : wi.cell? ⟨wh.heap.size, 0, none⟩ = some (.int .u8 (y.cl : Int)) := (cell_of_row _ _ _ _ _ _ HV_wi.out).trans rfl
  have cd1 : wi.cell? ⟨wh.heap.size, 1, none⟩ = some (.int .u32 (y.s : Int)) := (cell_of_row _ _ _ _ _ _ HV_wi.out).trans rfl
  have cd2 : wi.cell? ⟨wh.heap.size, 2, none⟩ = some (.int .i64 y.e) := (cell_of_row _ _ _ _ _ _ HV_wi.out).trans rfl
  have cd3 : wi.cell? ⟨wh.heap.size, 3, none⟩ = some (.int .u32 (y.j : Int)) := (cell_of_row _ _ _ _ _ _ HV_wi.out).trans rfl
  have cd4 : wi.cell? ⟨wh.heap.size, 4, none⟩ = some (.int .u8 (y.st : Int)) := (cell_of_row _ _ _ _ _ _ HV_wi.out).trans rfl
  have cd5 : wi.cell? ⟨wh.heap.size, 5, none⟩ = some (.int .i64 y.c) := (cell_of_row _ _ _ _ _ _ HV_wi.out).trans rfl
  go_wp2
  go_ret
  exact ⟨rfl, HB_wi.out⟩

set_option maxRecDepth 100000 in
set_option maxHeartbeats 8000000 in
theorem asks_yn (x : Note.Q) (y : Note.R) (w : World) (hx : x.wf) (hy : y.wf) (hxr : x.right = true) (hyr : y.right = false) :
    Calls Try.prog 4 #[.agg #[.int .u8 (x.cl : Int), .int .u32 (x.s : Int), .int .u8 (x.k : Int), .int .u8 (x.t : Int), .int .i64 x.kk, .int .i64 x.w, .int .u32 (x.j : Int)], .agg #[.int .u8 (y.cl : Int), .int .u32 (y.s : Int), .int .i64 y.e, .int .u32 (y.j : Int), .int .u8 (y.st : Int), .int .i64 y.c]] w fun e w' => e = .returned (.bool true) ∧ Below w.heap.size w w' := by
  have HXW := hid hx
  have HYW := hid hy
  have HXR := hid hxr
  have HYR := hid hyr
  have ATX := hid (show Note.Ans Note.Q.ok Note.Q.enc Note.Q.zero (Knot.knot x.enc) x 0 from .inr (.inl ⟨Knot.uerr_knot _ x.enc_length, ⟨hx, hxr⟩, Knot.utext_knot _ x.enc_length, rfl⟩))
  have HLA := hid (show (Knot.knot x.enc).length ≤ 100000 by rw [Knot.knot_length]; have := x.enc_length; omega)
  clear hx hy hxr hyr
  go_enter Try.func4, Try.ntmps4
  go_wp2_with fail
  refine (awake4_any _).mono ?_
  rintro e wa ⟨rfl, hba⟩
  have hs_wa := hba.size
  simp at hs_wa
  have HQ_wa := hid ((hba.block w.heap.size (by simp <;> omega)).trans (heap_alloc2_old w (.cells #[.int .u8 (x.cl : Int), .int .u32 (x.s : Int), .int .u8 (x.k : Int), .int .u8 (x.t : Int), .int .i64 x.kk, .int .i64 x.w, .int .u32 (x.j : Int)] 38) (.cells #[.int .u8 (y.cl : Int), .int .u32 (y.s : Int), .int .i64 y.e, .int .u32 (y.j : Int), .int .u8 (y.st : Int), .int .i64 y.c] 40)))
  have HR_wa := hid ((hba.block (w.heap.size + 1) (by simp)).trans (heap_alloc2_new w (.cells #[.int .u8 (x.cl : Int), .int .u32 (x.s : Int), .int .u8 (x.k : Int), .int .u8 (x.t : Int), .int .i64 x.kk, .int .i64 x.w, .int .u32 (x.j : Int)] 38) (.cells #[.int .u8 (y.cl : Int), .int .u32 (y.s : Int), .int .i64 y.e, .int .u32 (y.j : Int), .int .u8 (y.st : Int), .int .i64 y.c] 40)))
  have HB_wa := hid ((((Below.refl w.heap.size w).alloc (Nat.le_refl _) _).alloc (by simp) _).trans (hba.mono (by simp; omega)))
  clear hba
  go_wp2_with (first | (refine load_st rfl 38 (.tmp 2) rfl w.heap.size rfl #[.int .u8 (x.cl : Int), .int .u32 (x.s : Int), .int .u8 (x.k : Int), .int .u8 (x.t : Int), .int .i64 x.kk, .int .i64 x.w, .int .u32 (x.j : Int)] _ 7 HQ_wa.out Try.underlying38 size_request rfl ?_) | fail)
  refine (request_yes x wa HXW.out HXR.out).mono ?_
  rintro e wb ⟨av, rfl, hoa, hb_wb⟩
  have HQ_wb := hid (((hb_wb).block w.heap.size (by omega)).trans HQ_wa.out)
  have HR_wb := hid (((hb_wb).block (w.heap.size + 1) (by omega)).trans HR_wa.out)
  have HB_wb := hid (HB_wa.out.trans ((hb_wb).mono (by omega)))
  have hs_wb := (hb_wb).size
  go_wp2_with (first | (refine load_st rfl 38 (.tmp 2) rfl w.heap.size rfl #[.int .u8 (x.cl : Int), .int .u32 (x.s : Int), .int .u8 (x.k : Int), .int .u8 (x.t : Int), .int .i64 x.kk, .int .i64 x.w, .int .u32 (x.j : Int)] _ 7 HQ_wb.out Try.underlying38 size_request rfl ?_) | fail)
  refine (refrequest_yes x wb HXW.out HXR.out).mono ?_
  rintro e wc ⟨bv, rfl, hob, hb_wc⟩
  have HQ_wc := hid (((hb_wc).block w.heap.size (by omega)).trans HQ_wb.out)
  have HR_wc := hid (((hb_wc).block (w.heap.size + 1) (by omega)).trans HR_wb.out)
  have HB_wc := hid (HB_wb.out.trans ((hb_wc).mono (by omega)))
  have hs_wc := (hb_wc).size
  have ha_wc := hoa.below hb_wc
  go_wp2_with (first | (refine load_st rfl 40 (.tmp 3) rfl (w.heap.size + 1) rfl #[.int .u8 (y.cl : Int), .int .u32 (y.s : Int), .int .i64 y.e, .int .u32 (y.j : Int), .int .u8 (y.st : Int), .int .i64 y.c] _ 6 HR_wc.out Try.underlying40 size_reply rfl ?_) | fail)
  refine (reply_no y wc HYR.out).mono ?_
  rintro e wd ⟨rfl, hb_wd⟩
  have HQ_wd := hid (((hb_wd).block w.heap.size (by omega)).trans HQ_wc.out)
  have HR_wd := hid (((hb_wd).block (w.heap.size + 1) (by omega)).trans HR_wc.out)
  have HB_wd := hid (HB_wc.out.trans ((hb_wd).mono (by omega)))
  have hs_wd := (hb_wd).size
  go_wp2_with (first | (refine load_st rfl 40 (.tmp 3) rfl (w.heap.size + 1) rfl #[.int .u8 (y.cl : Int), .int .u32 (y.s : Int), .int .i64 y.e, .int .u32 (y.j : Int), .int .u8 (y.st : Int), .int .i64 y.c] _ 6 HR_wd.out Try.underlying40 size_reply rfl ?_) | fail)
  refine (refreply_no y wd HYR.out).mono ?_
  rintro e we ⟨rfl, hb_we⟩
  have HQ_we := hid (((hb_we).block w.heap.size (by omega)).trans HQ_wd.out)
  have HR_we := hid (((hb_we).block (w.heap.size + 1) (by omega)).trans HR_wd.out)
  have HB_we := hid (HB_wd.out.trans ((hb_we).mono (by omega)))
  have hs_we := (hb_we).size
  have ha_we := (ha_wc.below hb_wd).below hb_we
  have hb_we2 := (hob.below hb_wd).below hb_we
  have KA := hid ha_we.rd
  have KB := hid hb_we2.rd
  have KC := hid (Rd.nil we)
  have KD := hid (Rd.nil we)
  clear hb_wb hb_wc hb_wd hb_we hoa hob ha_wc ha_we hb_we2
  go_wp2_with fail
  refine (same_eq _ _ (Knot.knot x.enc) we KA.out KB.out).mono ?_
  rintro e w' ⟨rfl, rfl⟩
  go_wp2_with fail
  refine (same_eq _ _ [] we KC.out KD.out).mono ?_
  rintro e w' ⟨rfl, rfl⟩
  go_wp2_with fail
  refine (readrequest_any _ (Knot.knot x.enc) we KA.out HLA.out).mono ?_
  rintro e wf ⟨x', ec, rfl, hans, hxw, hb_wf⟩
  have HQ_wf := hid (((hb_wf).block w.heap.size (by omega)).trans HQ_we.out)
  have HR_wf := hid (((hb_wf).block (w.heap.size + 1) (by omega)).trans HR_we.out)
  have HB_wf := hid (HB_we.out.trans ((hb_wf).mono (by omega)))
  have hs_wf := (hb_wf).size
  have KC2 := hid (KC.out.below hb_wf)
  obtain ⟨e1, e2⟩ := Note.Ans.unique Note.Q.inj hans ATX.out
  have e1 := e1.symm
  subst e1
  subst e2
  clear hans hxw hb_wf
  have HS1 := hid (heap_alloc_new wf (.cells #[.int .u8 0, .int .u32 0, .int .u8 0, .int .u8 0, .int .i64 0, .int .i64 0, .int .u32 0] 38))
  obtain ⟨wg, hwg⟩ : ∃ wg, wg = (wf.alloc (.cells #[.int .u8 0, .int .u32 0, .int .u8 0, .int .u8 0, .int .i64 0, .int .i64 0, .int .u32 0] 38)).setRow wf.heap.size #[.int .u8 (x.cl : Int), .int .u32 (x.s : Int), .int .u8 (x.k : Int), .int .u8 (x.t : Int), .int .i64 x.kk, .int .i64 x.w, .int .u32 (x.j : Int)] := ⟨_, rfl⟩
  have h67 : Below wf.heap.size wf wg := by rw [hwg]; exact ((Below.refl _ _).alloc (Nat.le_refl _) _).trans (setRow_below _ (Nat.le_refl _))
  have HT_wg := hid (show wg.heap[wf.heap.size]? = some (.cells #[.int .u8 (x.cl : Int), .int .u32 (x.s : Int), .int .u8 (x.k : Int), .int .u8 (x.t : Int), .int .i64 x.kk, .int .i64 x.w, .int .u32 (x.j : Int)] 38 (0, 0)) by rw [hwg]; exact setRow_heap (wf.alloc (.cells #[.int .u8 0, .int .u32 0, .int .u8 0, .int .u8 0, .int .i64 0, .int .i64 0, .int .u32 0] 38)) wf.heap.size _ _ 38 _ HS1.out)
  have hsg : wf.heap.size + 1 ≤ wg.heap.size := by rw [hwg]; simp
  have HWG := hid hwg
  clear hwg
  have HQ_wg := hid (((h67).block w.heap.size (by omega)).trans HQ_wf.out)
  have HR_wg := hid (((h67).block (w.heap.size + 1) (by omega)).trans HR_wf.out)
  have HB_wg := hid (HB_wf.out.trans ((h67).mono (by omega)))
  have hs_wg := (h67).size
  have KC3 := hid (KC2.out.below h67)
  clear h67
  go_wp2_with (first | (refine store_st rfl 38 (.tmp 13) (.tmp 62) rfl wf.heap.size #[.int .u8 (x.cl : Int), .int .u32 (x.s : Int), .int .u8 (x.k : Int), .int .u8 (x.t : Int), .int .i64 x.kk, .int .i64 x.w, .int .u32 (x.j : Int)] rfl rfl #[.int .u8 0, .int .u32 0, .int .u8 0, .int .u8 0, .int .i64 0, .int .i64 0, .int .u32 0] 7 HS1.out size_request rfl rfl (by simp [Value.oneCell']) ?_) | fail)
  rw [← HWG.out]
  refine (readreply_any _ [] wg KC3.out (by simp)).mono ?_
  rintro e wh ⟨y', fc, rfl, hans, hyw, hb_wh⟩
  have HQ_wh := hid (((hb_wh).block w.heap.size (by omega)).trans HQ_wg.out)
  have HR_wh := hid (((hb_wh).block (w.heap.size + 1) (by omega)).trans HR_wg.out)
  have HB_wh := hid (HB_wg.out.trans ((hb_wh).mono (by omega)))
  have hs_wh := (hb_wh).size
  have HT_wh := hid ((hb_wh.block wf.heap.size (by omega)).trans HT_wg.out)
  have he : fc = 2 := Note.Ans.nil hans
  subst he
  clear hans hyw hb_wh
  have HS2 := hid (heap_alloc_new wh (.cells #[.int .u8 0, .int .u32 0, .int .i64 0, .int .u32 0, .int .u8 0, .int .i64 0] 40))
  obtain ⟨wi, hwi⟩ : ∃ wi, wi = (wh.alloc (.cells #[.int .u8 0, .int .u32 0, .int .i64 0, .int .u32 0, .int .u8 0, .int .i64 0] 40)).setRow wh.heap.size #[.int .u8 (y'.cl : Int), .int .u32 (y'.s : Int), .int .i64 y'.e, .int .u32 (y'.j : Int), .int .u8 (y'.st : Int), .int .i64 y'.c] := ⟨_, rfl⟩
  have h89 : Below wh.heap.size wh wi := by rw [hwi]; exact ((Below.refl _ _).alloc (Nat.le_refl _) _).trans (setRow_below _ (Nat.le_refl _))
  have HV_wi := hid (show wi.heap[wh.heap.size]? = some (.cells #[.int .u8 (y'.cl : Int), .int .u32 (y'.s : Int), .int .i64 y'.e, .int .u32 (y'.j : Int), .int .u8 (y'.st : Int), .int .i64 y'.c] 40 (0, 0)) by rw [hwi]; exact setRow_heap (wh.alloc (.cells #[.int .u8 0, .int .u32 0, .int .i64 0, .int .u32 0, .int .u8 0, .int .i64 0] 40)) wh.heap.size _ _ 40 _ HS2.out)
  have hsi : wh.heap.size + 1 ≤ wi.heap.size := by rw [hwi]; simp
  have HWI := hid hwi
  clear hwi
  have HQ_wi := hid (((h89).block w.heap.size (by omega)).trans HQ_wh.out)
  have HR_wi := hid (((h89).block (w.heap.size + 1) (by omega)).trans HR_wh.out)
  have HB_wi := hid (HB_wh.out.trans ((h89).mono (by omega)))
  have hs_wi := (h89).size
  have HT_wi := hid ((h89.block wf.heap.size (by omega)).trans HT_wh.out)
  clear h89
  go_upto_region 11 with (first | (refine store_st rfl 40 (.tmp 15) (.tmp 67) rfl wh.heap.size #[.int .u8 (y'.cl : Int), .int .u32 (y'.s : Int), .int .i64 y'.e, .int .u32 (y'.j : Int), .int .u8 (y'.st : Int), .int .i64 y'.c] rfl rfl #[.int .u8 0, .int .u32 0, .int .i64 0, .int .u32 0, .int .u8 0, .int .i64 0] 6 HS2.out size_reply rfl rfl (by simp [Value.oneCell']) ?_) | fail)
  rw [← HWI.out]
  have ca0 : wi.cell? ⟨w.heap.size, 0, none⟩ = some (.int .u8 (x.cl : Int)) := (cell_of_row _ _ _ _ _ _ HQ_wi.out).trans rfl
  have ca1 : wi.cell? ⟨w.heap.size, 1, none⟩ = some (.int .u32 (x.s : Int)) := (cell_of_row _ _ _ _ _ _ HQ_wi.out).trans rfl
  have ca2 : wi.cell? ⟨w.heap.size, 2, none⟩ = some (.int .u8 (x.k : Int)) := (cell_of_row _ _ _ _ _ _ HQ_wi.out).trans rfl
  have ca3 : wi.cell? ⟨w.heap.size, 3, none⟩ = some (.int .u8 (x.t : Int)) := (cell_of_row _ _ _ _ _ _ HQ_wi.out).trans rfl
  have ca4 : wi.cell? ⟨w.heap.size, 4, none⟩ = some (.int .i64 x.kk) := (cell_of_row _ _ _ _ _ _ HQ_wi.out).trans rfl
  have ca5 : wi.cell? ⟨w.heap.size, 5, none⟩ = some (.int .i64 x.w) := (cell_of_row _ _ _ _ _ _ HQ_wi.out).trans rfl
  have ca6 : wi.cell? ⟨w.heap.size, 6, none⟩ = some (.int .u32 (x.j : Int)) := (cell_of_row _ _ _ _ _ _ HQ_wi.out).trans rfl
  have cb0 : wi.cell? ⟨wf.heap.size, 0, none⟩ = some (.int .u8 (x.cl : Int)) := (cell_of_row _ _ _ _ _ _ HT_wi.out).trans rfl
  have cb1 : wi.cell? ⟨wf.heap.size, 1, none⟩ = some (.int .u32 (x.s : Int)) := (cell_of_row _ _ _ _ _ _ HT_wi.out).trans rfl
  have cb2 : wi.cell? ⟨wf.heap.size, 2, none⟩ = some (.int .u8 (x.k : Int)) := (cell_of_row _ _ _ _ _ _ HT_wi.out).trans rfl
  have cb3 : wi.cell? ⟨wf.heap.size, 3, none⟩ = some (.int .u8 (x.t : Int)) := (cell_of_row _ _ _ _ _ _ HT_wi.out).trans rfl
  have cb4 : wi.cell? ⟨wf.heap.size, 4, none⟩ = some (.int .i64 x.kk) := (cell_of_row _ _ _ _ _ _ HT_wi.out).trans rfl
  have cb5 : wi.cell? ⟨wf.heap.size, 5, none⟩ = some (.int .i64 x.w) := (cell_of_row _ _ _ _ _ _ HT_wi.out).trans rfl
  have cb6 : wi.cell? ⟨wf.heap.size, 6, none⟩ = some (.int .u32 (x.j : Int)) := (cell_of_row _ _ _ _ _ _ HT_wi.out).trans rfl
  go_wp2
  go_ret
  exact ⟨rfl, HB_wi.out⟩

set_option maxRecDepth 100000 in
set_option maxHeartbeats 8000000 in
theorem asks_ny (x : Note.Q) (y : Note.R) (w : World) (hx : x.wf) (hy : y.wf) (hxr : x.right = false) (hyr : y.right = true) :
    Calls Try.prog 4 #[.agg #[.int .u8 (x.cl : Int), .int .u32 (x.s : Int), .int .u8 (x.k : Int), .int .u8 (x.t : Int), .int .i64 x.kk, .int .i64 x.w, .int .u32 (x.j : Int)], .agg #[.int .u8 (y.cl : Int), .int .u32 (y.s : Int), .int .i64 y.e, .int .u32 (y.j : Int), .int .u8 (y.st : Int), .int .i64 y.c]] w fun e w' => e = .returned (.bool true) ∧ Below w.heap.size w w' := by
  have HXW := hid hx
  have HYW := hid hy
  have HXR := hid hxr
  have HYR := hid hyr
  have ATY := hid (show Note.Ans Note.R.ok Note.R.enc Note.R.zero (Knot.knot y.enc) y 0 from .inr (.inl ⟨Knot.uerr_knot _ y.enc_length, ⟨hy, hyr⟩, Knot.utext_knot _ y.enc_length, rfl⟩))
  have HLC := hid (show (Knot.knot y.enc).length ≤ 100000 by rw [Knot.knot_length]; have := y.enc_length; omega)
  clear hx hy hxr hyr
  go_enter Try.func4, Try.ntmps4
  go_wp2_with fail
  refine (awake4_any _).mono ?_
  rintro e wa ⟨rfl, hba⟩
  have hs_wa := hba.size
  simp at hs_wa
  have HQ_wa := hid ((hba.block w.heap.size (by simp <;> omega)).trans (heap_alloc2_old w (.cells #[.int .u8 (x.cl : Int), .int .u32 (x.s : Int), .int .u8 (x.k : Int), .int .u8 (x.t : Int), .int .i64 x.kk, .int .i64 x.w, .int .u32 (x.j : Int)] 38) (.cells #[.int .u8 (y.cl : Int), .int .u32 (y.s : Int), .int .i64 y.e, .int .u32 (y.j : Int), .int .u8 (y.st : Int), .int .i64 y.c] 40)))
  have HR_wa := hid ((hba.block (w.heap.size + 1) (by simp)).trans (heap_alloc2_new w (.cells #[.int .u8 (x.cl : Int), .int .u32 (x.s : Int), .int .u8 (x.k : Int), .int .u8 (x.t : Int), .int .i64 x.kk, .int .i64 x.w, .int .u32 (x.j : Int)] 38) (.cells #[.int .u8 (y.cl : Int), .int .u32 (y.s : Int), .int .i64 y.e, .int .u32 (y.j : Int), .int .u8 (y.st : Int), .int .i64 y.c] 40)))
  have HB_wa := hid ((((Below.refl w.heap.size w).alloc (Nat.le_refl _) _).alloc (by simp) _).trans (hba.mono (by simp; omega)))
  clear hba
  go_wp2_with (first | (refine load_st rfl 38 (.tmp 2) rfl w.heap.size rfl #[.int .u8 (x.cl : Int), .int .u32 (x.s : Int), .int .u8 (x.k : Int), .int .u8 (x.t : Int), .int .i64 x.kk, .int .i64 x.w, .int .u32 (x.j : Int)] _ 7 HQ_wa.out Try.underlying38 size_request rfl ?_) | fail)
  refine (request_no x wa HXR.out).mono ?_
  rintro e wb ⟨rfl, hb_wb⟩
  have HQ_wb := hid (((hb_wb).block w.heap.size (by omega)).trans HQ_wa.out)
  have HR_wb := hid (((hb_wb).block (w.heap.size + 1) (by omega)).trans HR_wa.out)
  have HB_wb := hid (HB_wa.out.trans ((hb_wb).mono (by omega)))
  have hs_wb := (hb_wb).size
  go_wp2_with (first | (refine load_st rfl 38 (.tmp 2) rfl w.heap.size rfl #[.int .u8 (x.cl : Int), .int .u32 (x.s : Int), .int .u8 (x.k : Int), .int .u8 (x.t : Int), .int .i64 x.kk, .int .i64 x.w, .int .u32 (x.j : Int)] _ 7 HQ_wb.out Try.underlying38 size_request rfl ?_) | fail)
  refine (refrequest_no x wb HXR.out).mono ?_
  rintro e wc ⟨rfl, hb_wc⟩
  have HQ_wc := hid (((hb_wc).block w.heap.size (by omega)).trans HQ_wb.out)
  have HR_wc := hid (((hb_wc).block (w.heap.size + 1) (by omega)).trans HR_wb.out)
  have HB_wc := hid (HB_wb.out.trans ((hb_wc).mono (by omega)))
  have hs_wc := (hb_wc).size
  go_wp2_with (first | (refine load_st rfl 40 (.tmp 3) rfl (w.heap.size + 1) rfl #[.int .u8 (y.cl : Int), .int .u32 (y.s : Int), .int .i64 y.e, .int .u32 (y.j : Int), .int .u8 (y.st : Int), .int .i64 y.c] _ 6 HR_wc.out Try.underlying40 size_reply rfl ?_) | fail)
  refine (reply_yes y wc HYW.out HYR.out).mono ?_
  rintro e wd ⟨cv, rfl, hoc, hb_wd⟩
  have HQ_wd := hid (((hb_wd).block w.heap.size (by omega)).trans HQ_wc.out)
  have HR_wd := hid (((hb_wd).block (w.heap.size + 1) (by omega)).trans HR_wc.out)
  have HB_wd := hid (HB_wc.out.trans ((hb_wd).mono (by omega)))
  have hs_wd := (hb_wd).size
  go_wp2_with (first | (refine load_st rfl 40 (.tmp 3) rfl (w.heap.size + 1) rfl #[.int .u8 (y.cl : Int), .int .u32 (y.s : Int), .int .i64 y.e, .int .u32 (y.j : Int), .int .u8 (y.st : Int), .int .i64 y.c] _ 6 HR_wd.out Try.underlying40 size_reply rfl ?_) | fail)
  refine (refreply_yes y wd HYW.out HYR.out).mono ?_
  rintro e we ⟨dv, rfl, hod, hb_we⟩
  have HQ_we := hid (((hb_we).block w.heap.size (by omega)).trans HQ_wd.out)
  have HR_we := hid (((hb_we).block (w.heap.size + 1) (by omega)).trans HR_wd.out)
  have HB_we := hid (HB_wd.out.trans ((hb_we).mono (by omega)))
  have hs_we := (hb_we).size
  have hc_we := hoc.below hb_we
  have KA := hid (Rd.nil we)
  have KB := hid (Rd.nil we)
  have KC := hid hc_we.rd
  have KD := hid hod.rd
  clear hb_wb hb_wc hb_wd hb_we hoc hod hc_we
  go_wp2_with fail
  refine (same_eq _ _ [] we KA.out KB.out).mono ?_
  rintro e w' ⟨rfl, rfl⟩
  go_wp2_with fail
  refine (same_eq _ _ (Knot.knot y.enc) we KC.out KD.out).mono ?_
  rintro e w' ⟨rfl, rfl⟩
  go_wp2_with fail
  refine (readrequest_any _ [] we KA.out (by simp)).mono ?_
  rintro e wf ⟨x', ec, rfl, hans, hxw, hb_wf⟩
  have HQ_wf := hid (((hb_wf).block w.heap.size (by omega)).trans HQ_we.out)
  have HR_wf := hid (((hb_wf).block (w.heap.size + 1) (by omega)).trans HR_we.out)
  have HB_wf := hid (HB_we.out.trans ((hb_wf).mono (by omega)))
  have hs_wf := (hb_wf).size
  have KC2 := hid (KC.out.below hb_wf)
  have he : ec = 2 := Note.Ans.nil hans
  subst he
  clear hans hxw hb_wf
  have HS1 := hid (heap_alloc_new wf (.cells #[.int .u8 0, .int .u32 0, .int .u8 0, .int .u8 0, .int .i64 0, .int .i64 0, .int .u32 0] 38))
  obtain ⟨wg, hwg⟩ : ∃ wg, wg = (wf.alloc (.cells #[.int .u8 0, .int .u32 0, .int .u8 0, .int .u8 0, .int .i64 0, .int .i64 0, .int .u32 0] 38)).setRow wf.heap.size #[.int .u8 (x'.cl : Int), .int .u32 (x'.s : Int), .int .u8 (x'.k : Int), .int .u8 (x'.t : Int), .int .i64 x'.kk, .int .i64 x'.w, .int .u32 (x'.j : Int)] := ⟨_, rfl⟩
  have h67 : Below wf.heap.size wf wg := by rw [hwg]; exact ((Below.refl _ _).alloc (Nat.le_refl _) _).trans (setRow_below _ (Nat.le_refl _))
  have HT_wg := hid (show wg.heap[wf.heap.size]? = some (.cells #[.int .u8 (x'.cl : Int), .int .u32 (x'.s : Int), .int .u8 (x'.k : Int), .int .u8 (x'.t : Int), .int .i64 x'.kk, .int .i64 x'.w, .int .u32 (x'.j : Int)] 38 (0, 0)) by rw [hwg]; exact setRow_heap (wf.alloc (.cells #[.int .u8 0, .int .u32 0, .int .u8 0, .int .u8 0, .int .i64 0, .int .i64 0, .int .u32 0] 38)) wf.heap.size _ _ 38 _ HS1.out)
  have hsg : wf.heap.size + 1 ≤ wg.heap.size := by rw [hwg]; simp
  have HWG := hid hwg
  clear hwg
  have HQ_wg := hid (((h67).block w.heap.size (by omega)).trans HQ_wf.out)
  have HR_wg := hid (((h67).block (w.heap.size + 1) (by omega)).trans HR_wf.out)
  have HB_wg := hid (HB_wf.out.trans ((h67).mono (by omega)))
  have hs_wg := (h67).size
  have KC3 := hid (KC2.out.below h67)
  clear h67
  go_wp2_with (first | (refine store_st rfl 38 (.tmp 13) (.tmp 62) rfl wf.heap.size #[.int .u8 (x'.cl : Int), .int .u32 (x'.s : Int), .int .u8 (x'.k : Int), .int .u8 (x'.t : Int), .int .i64 x'.kk, .int .i64 x'.w, .int .u32 (x'.j : Int)] rfl rfl #[.int .u8 0, .int .u32 0, .int .u8 0, .int .u8 0, .int .i64 0, .int .i64 0, .int .u32 0] 7 HS1.out size_request rfl rfl (by simp [Value.oneCell']) ?_) | fail)
  rw [← HWG.out]
  refine (readreply_any _ (Knot.knot y.enc) wg KC3.out HLC.out).mono ?_
  rintro e wh ⟨y', fc, rfl, hans, hyw, hb_wh⟩
  have HQ_wh := hid (((hb_wh).block w.heap.size (by omega)).trans HQ_wg.out)
  have HR_wh := hid (((hb_wh).block (w.heap.size + 1) (by omega)).trans HR_wg.out)
  have HB_wh := hid (HB_wg.out.trans ((hb_wh).mono (by omega)))
  have hs_wh := (hb_wh).size
  have HT_wh := hid ((hb_wh.block wf.heap.size (by omega)).trans HT_wg.out)
  obtain ⟨e1, e2⟩ := Note.Ans.unique Note.R.inj hans ATY.out
  have e1 := e1.symm
  subst e1
  subst e2
  clear hans hyw hb_wh
  have HS2 := hid (heap_alloc_new wh (.cells #[.int .u8 0, .int .u32 0, .int .i64 0, .int .u32 0, .int .u8 0, .int .i64 0] 40))
  obtain ⟨wi, hwi⟩ : ∃ wi, wi = (wh.alloc (.cells #[.int .u8 0, .int .u32 0, .int .i64 0, .int .u32 0, .int .u8 0, .int .i64 0] 40)).setRow wh.heap.size #[.int .u8 (y.cl : Int), .int .u32 (y.s : Int), .int .i64 y.e, .int .u32 (y.j : Int), .int .u8 (y.st : Int), .int .i64 y.c] := ⟨_, rfl⟩
  have h89 : Below wh.heap.size wh wi := by rw [hwi]; exact ((Below.refl _ _).alloc (Nat.le_refl _) _).trans (setRow_below _ (Nat.le_refl _))
  have HV_wi := hid (show wi.heap[wh.heap.size]? = some (.cells #[.int .u8 (y.cl : Int), .int .u32 (y.s : Int), .int .i64 y.e, .int .u32 (y.j : Int), .int .u8 (y.st : Int), .int .i64 y.c] 40 (0, 0)) by rw [hwi]; exact setRow_heap (wh.alloc (.cells #[.int .u8 0, .int .u32 0, .int .i64 0, .int .u32 0, .int .u8 0, .int .i64 0] 40)) wh.heap.size _ _ 40 _ HS2.out)
  have hsi : wh.heap.size + 1 ≤ wi.heap.size := by rw [hwi]; simp
  have HWI := hid hwi
  clear hwi
  have HQ_wi := hid (((h89).block w.heap.size (by omega)).trans HQ_wh.out)
  have HR_wi := hid (((h89).block (w.heap.size + 1) (by omega)).trans HR_wh.out)
  have HB_wi := hid (HB_wh.out.trans ((h89).mono (by omega)))
  have hs_wi := (h89).size
  have HT_wi := hid ((h89.block wf.heap.size (by omega)).trans HT_wh.out)
  clear h89
  go_upto_region 11 with (first | (refine store_st rfl 40 (.tmp 15) (.tmp 67) rfl wh.heap.size #[.int .u8 (y.cl : Int), .int .u32 (y.s : Int), .int .i64 y.e, .int .u32 (y.j : Int), .int .u8 (y.st : Int), .int .i64 y.c] rfl rfl #[.int .u8 0, .int .u32 0, .int .i64 0, .int .u32 0, .int .u8 0, .int .i64 0] 6 HS2.out size_reply rfl rfl (by simp [Value.oneCell']) ?_) | fail)
  rw [← HWI.out]
  have cc0 : wi.cell? ⟨w.heap.size + 1, 0, none⟩ = some (.int .u8 (y.cl : Int)) := (cell_of_row _ _ _ _ _ _ HR_wi.out).trans rfl
  have cc1 : wi.cell? ⟨w.heap.size + 1, 1, none⟩ = some (.int .u32 (y.s : Int)) := (cell_of_row _ _ _ _ _ _ HR_wi.out).trans rfl
  have cc2 : wi.cell? ⟨w.heap.size + 1, 2, none⟩ = some (.int .i64 y.e) := (cell_of_row _ _ _ _ _ _ HR_wi.out).trans rfl
  have cc3 : wi.cell? ⟨w.heap.size + 1, 3, none⟩ = some (.int .u32 (y.j : Int)) := (cell_of_row _ _ _ _ _ _ HR_wi.out).trans rfl
  have cc4 : wi.cell? ⟨w.heap.size + 1, 4, none⟩ = some (.int .u8 (y.st : Int)) := (cell_of_row _ _ _ _ _ _ HR_wi.out).trans rfl
  have cc5 : wi.cell? ⟨w.heap.size + 1, 5, none⟩ = some (.int .i64 y.c) := (cell_of_row _ _ _ _ _ _ HR_wi.out).trans rfl
  have cd0 : wi.cell? ⟨wh.heap.size, 0, none⟩ = some (.int .u8 (y.cl : Int)) := (cell_of_row _ _ _ _ _ _ HV_wi.out).trans rfl
  have cd1 : wi.cell? ⟨wh.heap.size, 1, none⟩ = some (.int .u32 (y.s : Int)) := (cell_of_row _ _ _ _ _ _ HV_wi.out).trans rfl
  have cd2 : wi.cell? ⟨wh.heap.size, 2, none⟩ = some (.int .i64 y.e) := (cell_of_row _ _ _ _ _ _ HV_wi.out).trans rfl
  have cd3 : wi.cell? ⟨wh.heap.size, 3, none⟩ = some (.int .u32 (y.j : Int)) := (cell_of_row _ _ _ _ _ _ HV_wi.out).trans rfl
  have cd4 : wi.cell? ⟨wh.heap.size, 4, none⟩ = some (.int .u8 (y.st : Int)) := (cell_of_row _ _ _ _ _ _ HV_wi.out).trans rfl
  have cd5 : wi.cell? ⟨wh.heap.size, 5, none⟩ = some (.int .i64 y.c) := (cell_of_row _ _ _ _ _ _ HV_wi.out).trans rfl
  go_wp2
  go_ret
  exact ⟨rfl, HB_wi.out⟩

set_option maxRecDepth 100000 in
set_option maxHeartbeats 8000000 in
theorem asks_nn (x : Note.Q) (y : Note.R) (w : World) (hx : x.wf) (hy : y.wf) (hxr : x.right = false) (hyr : y.right = false) :
    Calls Try.prog 4 #[.agg #[.int .u8 (x.cl : Int), .int .u32 (x.s : Int), .int .u8 (x.k : Int), .int .u8 (x.t : Int), .int .i64 x.kk, .int .i64 x.w, .int .u32 (x.j : Int)], .agg #[.int .u8 (y.cl : Int), .int .u32 (y.s : Int), .int .i64 y.e, .int .u32 (y.j : Int), .int .u8 (y.st : Int), .int .i64 y.c]] w fun e w' => e = .returned (.bool true) ∧ Below w.heap.size w w' := by
  have HXW := hid hx
  have HYW := hid hy
  have HXR := hid hxr
  have HYR := hid hyr
  clear hx hy hxr hyr
  go_enter Try.func4, Try.ntmps4
  go_wp2_with fail
  refine (awake4_any _).mono ?_
  rintro e wa ⟨rfl, hba⟩
  have hs_wa := hba.size
  simp at hs_wa
  have HQ_wa := hid ((hba.block w.heap.size (by simp <;> omega)).trans (heap_alloc2_old w (.cells #[.int .u8 (x.cl : Int), .int .u32 (x.s : Int), .int .u8 (x.k : Int), .int .u8 (x.t : Int), .int .i64 x.kk, .int .i64 x.w, .int .u32 (x.j : Int)] 38) (.cells #[.int .u8 (y.cl : Int), .int .u32 (y.s : Int), .int .i64 y.e, .int .u32 (y.j : Int), .int .u8 (y.st : Int), .int .i64 y.c] 40)))
  have HR_wa := hid ((hba.block (w.heap.size + 1) (by simp)).trans (heap_alloc2_new w (.cells #[.int .u8 (x.cl : Int), .int .u32 (x.s : Int), .int .u8 (x.k : Int), .int .u8 (x.t : Int), .int .i64 x.kk, .int .i64 x.w, .int .u32 (x.j : Int)] 38) (.cells #[.int .u8 (y.cl : Int), .int .u32 (y.s : Int), .int .i64 y.e, .int .u32 (y.j : Int), .int .u8 (y.st : Int), .int .i64 y.c] 40)))
  have HB_wa := hid ((((Below.refl w.heap.size w).alloc (Nat.le_refl _) _).alloc (by simp) _).trans (hba.mono (by simp; omega)))
  clear hba
  go_wp2_with (first | (refine load_st rfl 38 (.tmp 2) rfl w.heap.size rfl #[.int .u8 (x.cl : Int), .int .u32 (x.s : Int), .int .u8 (x.k : Int), .int .u8 (x.t : Int), .int .i64 x.kk, .int .i64 x.w, .int .u32 (x.j : Int)] _ 7 HQ_wa.out Try.underlying38 size_request rfl ?_) | fail)
  refine (request_no x wa HXR.out).mono ?_
  rintro e wb ⟨rfl, hb_wb⟩
  have HQ_wb := hid (((hb_wb).block w.heap.size (by omega)).trans HQ_wa.out)
  have HR_wb := hid (((hb_wb).block (w.heap.size + 1) (by omega)).trans HR_wa.out)
  have HB_wb := hid (HB_wa.out.trans ((hb_wb).mono (by omega)))
  have hs_wb := (hb_wb).size
  go_wp2_with (first | (refine load_st rfl 38 (.tmp 2) rfl w.heap.size rfl #[.int .u8 (x.cl : Int), .int .u32 (x.s : Int), .int .u8 (x.k : Int), .int .u8 (x.t : Int), .int .i64 x.kk, .int .i64 x.w, .int .u32 (x.j : Int)] _ 7 HQ_wb.out Try.underlying38 size_request rfl ?_) | fail)
  refine (refrequest_no x wb HXR.out).mono ?_
  rintro e wc ⟨rfl, hb_wc⟩
  have HQ_wc := hid (((hb_wc).block w.heap.size (by omega)).trans HQ_wb.out)
  have HR_wc := hid (((hb_wc).block (w.heap.size + 1) (by omega)).trans HR_wb.out)
  have HB_wc := hid (HB_wb.out.trans ((hb_wc).mono (by omega)))
  have hs_wc := (hb_wc).size
  go_wp2_with (first | (refine load_st rfl 40 (.tmp 3) rfl (w.heap.size + 1) rfl #[.int .u8 (y.cl : Int), .int .u32 (y.s : Int), .int .i64 y.e, .int .u32 (y.j : Int), .int .u8 (y.st : Int), .int .i64 y.c] _ 6 HR_wc.out Try.underlying40 size_reply rfl ?_) | fail)
  refine (reply_no y wc HYR.out).mono ?_
  rintro e wd ⟨rfl, hb_wd⟩
  have HQ_wd := hid (((hb_wd).block w.heap.size (by omega)).trans HQ_wc.out)
  have HR_wd := hid (((hb_wd).block (w.heap.size + 1) (by omega)).trans HR_wc.out)
  have HB_wd := hid (HB_wc.out.trans ((hb_wd).mono (by omega)))
  have hs_wd := (hb_wd).size
  go_wp2_with (first | (refine load_st rfl 40 (.tmp 3) rfl (w.heap.size + 1) rfl #[.int .u8 (y.cl : Int), .int .u32 (y.s : Int), .int .i64 y.e, .int .u32 (y.j : Int), .int .u8 (y.st : Int), .int .i64 y.c] _ 6 HR_wd.out Try.underlying40 size_reply rfl ?_) | fail)
  refine (refreply_no y wd HYR.out).mono ?_
  rintro e we ⟨rfl, hb_we⟩
  have HQ_we := hid (((hb_we).block w.heap.size (by omega)).trans HQ_wd.out)
  have HR_we := hid (((hb_we).block (w.heap.size + 1) (by omega)).trans HR_wd.out)
  have HB_we := hid (HB_wd.out.trans ((hb_we).mono (by omega)))
  have hs_we := (hb_we).size
  have KA := hid (Rd.nil we)
  have KB := hid (Rd.nil we)
  have KC := hid (Rd.nil we)
  have KD := hid (Rd.nil we)
  clear hb_wb hb_wc hb_wd hb_we
  go_wp2_with fail
  refine (same_eq _ _ [] we KA.out KB.out).mono ?_
  rintro e w' ⟨rfl, rfl⟩
  go_wp2_with fail
  refine (same_eq _ _ [] we KC.out KD.out).mono ?_
  rintro e w' ⟨rfl, rfl⟩
  go_wp2_with fail
  refine (readrequest_any _ [] we KA.out (by simp)).mono ?_
  rintro e wf ⟨x', ec, rfl, hans, hxw, hb_wf⟩
  have HQ_wf := hid (((hb_wf).block w.heap.size (by omega)).trans HQ_we.out)
  have HR_wf := hid (((hb_wf).block (w.heap.size + 1) (by omega)).trans HR_we.out)
  have HB_wf := hid (HB_we.out.trans ((hb_wf).mono (by omega)))
  have hs_wf := (hb_wf).size
  have KC2 := hid (KC.out.below hb_wf)
  have he : ec = 2 := Note.Ans.nil hans
  subst he
  clear hans hxw hb_wf
  have HS1 := hid (heap_alloc_new wf (.cells #[.int .u8 0, .int .u32 0, .int .u8 0, .int .u8 0, .int .i64 0, .int .i64 0, .int .u32 0] 38))
  obtain ⟨wg, hwg⟩ : ∃ wg, wg = (wf.alloc (.cells #[.int .u8 0, .int .u32 0, .int .u8 0, .int .u8 0, .int .i64 0, .int .i64 0, .int .u32 0] 38)).setRow wf.heap.size #[.int .u8 (x'.cl : Int), .int .u32 (x'.s : Int), .int .u8 (x'.k : Int), .int .u8 (x'.t : Int), .int .i64 x'.kk, .int .i64 x'.w, .int .u32 (x'.j : Int)] := ⟨_, rfl⟩
  have h67 : Below wf.heap.size wf wg := by rw [hwg]; exact ((Below.refl _ _).alloc (Nat.le_refl _) _).trans (setRow_below _ (Nat.le_refl _))
  have HT_wg := hid (show wg.heap[wf.heap.size]? = some (.cells #[.int .u8 (x'.cl : Int), .int .u32 (x'.s : Int), .int .u8 (x'.k : Int), .int .u8 (x'.t : Int), .int .i64 x'.kk, .int .i64 x'.w, .int .u32 (x'.j : Int)] 38 (0, 0)) by rw [hwg]; exact setRow_heap (wf.alloc (.cells #[.int .u8 0, .int .u32 0, .int .u8 0, .int .u8 0, .int .i64 0, .int .i64 0, .int .u32 0] 38)) wf.heap.size _ _ 38 _ HS1.out)
  have hsg : wf.heap.size + 1 ≤ wg.heap.size := by rw [hwg]; simp
  have HWG := hid hwg
  clear hwg
  have HQ_wg := hid (((h67).block w.heap.size (by omega)).trans HQ_wf.out)
  have HR_wg := hid (((h67).block (w.heap.size + 1) (by omega)).trans HR_wf.out)
  have HB_wg := hid (HB_wf.out.trans ((h67).mono (by omega)))
  have hs_wg := (h67).size
  have KC3 := hid (KC2.out.below h67)
  clear h67
  go_wp2_with (first | (refine store_st rfl 38 (.tmp 13) (.tmp 62) rfl wf.heap.size #[.int .u8 (x'.cl : Int), .int .u32 (x'.s : Int), .int .u8 (x'.k : Int), .int .u8 (x'.t : Int), .int .i64 x'.kk, .int .i64 x'.w, .int .u32 (x'.j : Int)] rfl rfl #[.int .u8 0, .int .u32 0, .int .u8 0, .int .u8 0, .int .i64 0, .int .i64 0, .int .u32 0] 7 HS1.out size_request rfl rfl (by simp [Value.oneCell']) ?_) | fail)
  rw [← HWG.out]
  refine (readreply_any _ [] wg KC3.out (by simp)).mono ?_
  rintro e wh ⟨y', fc, rfl, hans, hyw, hb_wh⟩
  have HQ_wh := hid (((hb_wh).block w.heap.size (by omega)).trans HQ_wg.out)
  have HR_wh := hid (((hb_wh).block (w.heap.size + 1) (by omega)).trans HR_wg.out)
  have HB_wh := hid (HB_wg.out.trans ((hb_wh).mono (by omega)))
  have hs_wh := (hb_wh).size
  have HT_wh := hid ((hb_wh.block wf.heap.size (by omega)).trans HT_wg.out)
  have he : fc = 2 := Note.Ans.nil hans
  subst he
  clear hans hyw hb_wh
  have HS2 := hid (heap_alloc_new wh (.cells #[.int .u8 0, .int .u32 0, .int .i64 0, .int .u32 0, .int .u8 0, .int .i64 0] 40))
  obtain ⟨wi, hwi⟩ : ∃ wi, wi = (wh.alloc (.cells #[.int .u8 0, .int .u32 0, .int .i64 0, .int .u32 0, .int .u8 0, .int .i64 0] 40)).setRow wh.heap.size #[.int .u8 (y'.cl : Int), .int .u32 (y'.s : Int), .int .i64 y'.e, .int .u32 (y'.j : Int), .int .u8 (y'.st : Int), .int .i64 y'.c] := ⟨_, rfl⟩
  have h89 : Below wh.heap.size wh wi := by rw [hwi]; exact ((Below.refl _ _).alloc (Nat.le_refl _) _).trans (setRow_below _ (Nat.le_refl _))
  have HV_wi := hid (show wi.heap[wh.heap.size]? = some (.cells #[.int .u8 (y'.cl : Int), .int .u32 (y'.s : Int), .int .i64 y'.e, .int .u32 (y'.j : Int), .int .u8 (y'.st : Int), .int .i64 y'.c] 40 (0, 0)) by rw [hwi]; exact setRow_heap (wh.alloc (.cells #[.int .u8 0, .int .u32 0, .int .i64 0, .int .u32 0, .int .u8 0, .int .i64 0] 40)) wh.heap.size _ _ 40 _ HS2.out)
  have hsi : wh.heap.size + 1 ≤ wi.heap.size := by rw [hwi]; simp
  have HWI := hid hwi
  clear hwi
  have HQ_wi := hid (((h89).block w.heap.size (by omega)).trans HQ_wh.out)
  have HR_wi := hid (((h89).block (w.heap.size + 1) (by omega)).trans HR_wh.out)
  have HB_wi := hid (HB_wh.out.trans ((h89).mono (by omega)))
  have hs_wi := (h89).size
  have HT_wi := hid ((h89.block wf.heap.size (by omega)).trans HT_wh.out)
  clear h89
  go_upto_region 11 with (first | (refine store_st rfl 40 (.tmp 15) (.tmp 67) rfl wh.heap.size #[.int .u8 (y'.cl : Int), .int .u32 (y'.s : Int), .int .i64 y'.e, .int .u32 (y'.j : Int), .int .u8 (y'.st : Int), .int .i64 y'.c] rfl rfl #[.int .u8 0, .int .u32 0, .int .i64 0, .int .u32 0, .int .u8 0, .int .i64 0] 6 HS2.out size_reply rfl rfl (by simp [Value.oneCell']) ?_) | fail)
  rw [← HWI.out]
  go_wp2
  go_ret
  exact ⟨rfl, HB_wi.out⟩

set_option maxHeartbeats 1000000 in
theorem walk (v0 : Value) (v1 : Value) (w : World) (w0 : IsRequest w v0) (w1 : IsReply w v1) :
    Calls Try.prog 4 #[v0, v1] w fun e w' => e = .returned (.bool true) ∧ Below w.heap.size w w' := by
  obtain ⟨x, rfl, hx, _⟩ := w0
  obtain ⟨y, rfl, hy, _⟩ := w1
  cases hxr : x.right <;> cases hyr : y.right
  · exact asks_nn x y w hx hy hxr hyr
  · exact asks_ny x y w hx hy hxr hyr
  · exact asks_yn x y w hx hy hxr hyr
  · exact asks_yy x y w hx hy hxr hyr

/-! ### THE ROW's STEP -/
set_option maxRecDepth 100000 in
theorem lifted (os : Os) (started : os.Started) (H : Type) (enc : TypeId × Value → H) :
    ReturnsInHanded {} Try.checked os 4 .any (Rows.noteAsksSpec.pre6 enc Try.prog Try.f4 Rows.noteAsksRow.domain false) (Rows.noteAsksSpec.post enc Try.prog Try.f4 false true false false) := by
  refine returnsInHanded_of_change (C := Try.checked) own started (by kernel_rfl) Try.func4
    (ChangeSpec.witness6 (enc := enc) (C := Try.checked) false ⟨#[], #[.agg #[.int .u8 0, .int .u32 0, .int .u8 0, .int .u8 0, .int .i64 0, .int .i64 0, .int .u32 0], .agg #[.int .u8 0, .int .u32 0, .int .i64 0, .int .u32 0, .int .u8 0, .int .i64 0]], []⟩ 8 (by kernel_rfl) (by kernel_rfl) (by kernel_rfl) (by kernel_rfl)) ?_
  intro W base args ds gs before hval0 hW hcnd _
  have hval : ∀ (j : Nat) t v, Try.f4.params[j]? = some t → args[j]? = some v → Value.okWide Try.prog W .any base t v := hval0
  have hW' := hW
  obtain ⟨p, q, hA0, hV, rfl, hfz, hnd⟩ := hW
  have hA : DataW.TrodAll enc Try.prog W 0 (fun _ => true) true Try.f4.params.toList args.toList ds p := hA0
  rw [Try.params4] at hA hval
  obtain ⟨v0, vs0, d0, ds0, p0, q0, hargs, rfl, rfl, h0, r0⟩ := trodAll_cons hA
  obtain ⟨v1, vs1, d1, ds1, p1, q1, rfl, rfl, rfl, h1, r1⟩ := trodAll_cons r0
  obtain ⟨rfl, rfl, rfl⟩ := trodAll_nil r1
  obtain rfl : args = #[v0, v1] := by cases args; simp_all
  obtain ⟨rfl, rfl⟩ := trodVars_none hV
  have k0 := h0
  have lt0 : ∀ x ∈ p0, x.block < W.heap.size := by obtain ⟨m, hm⟩ := k0; exact DataW.trod_lt m _ _ _ hm
  have k1 := h1
  have lt1 : ∀ x ∈ p1, x.block < W.heap.size := by obtain ⟨m, hm⟩ := k1; exact DataW.trod_lt m _ _ _ hm
  have w0 : IsRequest W v0 := isRequest_of (hval 0 38 v0 rfl rfl) h0
  have w1 : IsReply W v1 := isReply_of (hval 1 40 v1 rfl rfl) h1
  clear hA0 hval0
  refine (walk v0 v1 W w0 w1).mono fun e W' ⟨he, bel⟩ => ?_
  subst he
  exact ⟨_, rfl, _, _, _, [], _, [], hW', trodAll_mk1 (shut_bool Try.underlying4 _), (trodAll_cons_mk (Below.trod laidOut (by kernel_rfl) (of_decide_eq_true (by kernel_rfl)) k0 bel lt0) (trodAll_cons_mk (Below.trod laidOut (by kernel_rfl) (of_decide_eq_true (by kernel_rfl)) k1 bel lt1) trodAll_mk0)), rfl, bel.frame _, fun h => by cases h⟩

theorem over : Rows.noteAsksRow.holds Try.pinned (OpenSpec.ofChange Rows.noteAsksSpec) :=
  OpenClaim.holds_of_wide 4 Try.f4 rfl rfl rfl rfl rfl rfl rfl ⟨rfl, rfl, rfl, rfl, rfl⟩ rfl rfl rfl rfl rfl (by kernel_rfl) Try.func4 (by kernel_rfl)
    (of_decide_eq_true (by kernel_rfl)) (by unfold Func.isWrapper; first | (rw [if_pos (by decide +kernel)]; kernel_rfl) | (rw [if_neg (by decide +kernel)]; exact ⟨rfl, rfl⟩))
    (fun os started H enc _ => lifted os started H enc)

/-- THE STATEMENT -/
theorem noteAsks_holds : Rows.NoteAsksSaid := over
#print axioms noteAsks_holds
end Go.Proofs.Ytccgpcllebmonab.noteAsks
