/-
  The program's block operations and the document's play alike: up to forty steps of Put, Get, Store, Load, Flush, Write, Crash and Arm, on a slab of one to six sectors or on a nil one, answer the same at every step. No conditions.
  (The frame behind the walk is the guide's shell, at these parameters.)
-/
import Derived.Test.YtbagpckiegpalaaRows
import Derived.WalkKit
import Derived.Test.YtbagpckiegpalaaBk6a
import Derived.ProofKit
import Derived.Deep.Cut
import Derived.Deep.CutRange
import Derived.Deep.CutBlock
import Derived.Deep.Grids
import Derived.OpenShut
import Derived.ShutString
import Derived.ChangeOld
import Derived.Below
namespace Go.Proofs.Ytbagpckiegpalaa.blockPlays
open Go.ChangeShapes Go.WideShapes Go.ChangeAt Go.RowKit
open Go.ChangeMaps (open_string shut_string)
set_option linter.unusedVariables false

theorem own : ownKnob Try.prog.godebug = none := by kernel_rfl
theorem laidOut : laidOutB Try.prog = true := by kernel_rfl

set_option maxRecDepth 100000 in
set_option maxHeartbeats 16000000 in
theorem walk (a0 : Int) (a1 : Bool) (a2 : Option Addr) (len2 cap2 : Nat) (w : World) (w0 : (Lit.int .u8 a0).wf = true) (w2 : IsOps6 w a2 len2 cap2) :
    Calls Try.prog 3 #[.int .u8 a0, .bool a1, .slice a2 len2 cap2] w fun e w' => e = .returned (.bool true) ∧ Below w.heap.size w w' := by
  have hob := w2.bounds
  have HOP := hid w2
  obtain ⟨q0, rfl⟩ := Int.eq_ofNat_of_zero_le (show 0 ≤ a0 by have := bounds_u8 w0; omega)
  have hq0 : q0 < 256 := by have := bounds_u8 w0; omega
  obtain ⟨m6, hm6⟩ : ∃ m, m = q0 % 6 := ⟨_, rfl⟩
  obtain ⟨nn, hnn⟩ : ∃ n, n = 1 + m6 := ⟨_, rfl⟩
  have k1 : (q0 : Int) % 6 = (m6 : Int) := by omega
  have k2 : (q0 : Int).tmod 6 = (m6 : Int) := by rw [Int.tmod_eq_emod_of_nonneg (by omega)]; omega
  have HNI := hid (show (1 : Int) + (m6 : Int) = (nn : Int) by omega)
  have HNN := hid (show 1 ≤ nn ∧ nn ≤ 6 by omega)
  clear w0 w2 hm6 hnn
  go_enter Try.func3, Try.ntmps3
  go_wp2_with fail
  refine (awake6_any w).mono ?_
  rintro e wa ⟨rfl, hba⟩
  have HBA := hid hba
  have hsa := hba.size
  clear hba
  have k3 := HNI.out
  go_wp2_with fail
  refine (new_yes nn wa HNN.out.1 (by have := HNN.out; omega)).mono ?_
  rintro e w1 ⟨b, bn, bd, rfl, h1, hb1⟩
  have H1 := hid (show SlabAt w1 wa.heap.size b bn bd (.slice none 0 0) (Sl.new nn) from h1)
  have HB1 := hid hb1
  clear h1 hb1
  go_wp2_with fail
  refine (refnew_yes nn w1 HNN.out.1 (by have := HNN.out; omega)).mono ?_
  rintro e w2 ⟨rb, gd, cd, rfl, r2, hb2⟩
  have HR2 := hid r2
  have HB2 := hid hb2
  have HH2 := hid (H1.out.below hb2)
  have HB0 := hid (HB1.out.trans (hb2.mono HB1.out.size))
  clear r2 hb2
  cases a1 with
  | true =>
    have HS0 := hid (show Slb2 w2 wa.heap.size w1.heap.size (4 * 0) (.pointer none) (.pointer none) none none from ⟨HB1.out.size, HB2.out.size, .inl ⟨rfl, rfl, rfl, rfl⟩⟩)
    go_wp2_with fail
    obtain ⟨pv, hpv⟩ : ∃ v : Value, v = .pointer none := ⟨_, rfl⟩
    rw [← hpv] at HS0 ⊢
    clear hpv H1 HR2 HH2 k1 k2 k3
    go_loopw [44] (fun vi wr => ∃ (k : Nat) (o : Option Sl), k ≤ len2 ∧ k ≤ 40 ∧ vi = .int .i64 k ∧ Slb2 wr wa.heap.size w1.heap.size (4 * k) pv pv o o ∧ Below wa.heap.size wa wr) (fun vi _ => len2 - (intOf vi).toNat)
    case atStart => exact ⟨0, _, by omega, by omega, rfl, HS0.out, HB0.out⟩
    case round =>
      obtain ⟨k, o, hk1, hk2, rfl, hs, hB⟩ := hrel
      have HS := hid hs
      have HB := hid hB
      have HBw := hid (HBA.out.trans (hB.mono hsa))
      clear hs hB
      by_cases hlt : k < len2
      · have hkl : (k : Int) < (len2 : Int) := by omega
        obtain ⟨ob, off, d, i, n0, n1, n2, n3, A, L, C, zs, tn, en, gn, an, rfl, hob, ⟨c0, c1, c2, c3, c4, c5, c6, c7, c8, c9, c10⟩, hd, hi, hn, hrow, hr4⟩ := HOP.out.at HBw.out hlt
        by_cases h40 : k < 40
        · have h40i : decide ((k : Int) ≥ 40) = false := decide_eq_false (by omega)
          have h40n : ¬ (40 : Int) ≤ (k : Int) := by omega
          obtain ⟨K, hK⟩ : ∃ K, K = min L 130 := ⟨_, rfl⟩
          obtain ⟨hbl1, hbl2, hbl3⟩ := hrow.bounds
          have hKL : K ≤ L := by omega
          have hKC : (K : Int) ≤ (C : Int) := by omega
          have hK130 : K ≤ 130 := by omega
          have HMIN := hid (show (if 130 < (L : Int) then (130 : Int) else (L : Int)) = (K : Int) by split <;> omega)
          obtain ⟨Bq, hBl, hBr, q0, q1, q2, q3⟩ := IsBlock6.blk hn hrow K hKL
          have HBL := hid hBl
          have HR0 := hid hBr
          have HBV := hid (show ∀ dv, Bq.val dv = .agg #[.int .u8 (n0 : Int), .int .u32 (n1 : Int), .int .u32 (n2 : Int), .int .u32 (n3 : Int), dv] from fun dv => by unfold Blk.val; rw [q0, q1, q2, q3])
          obtain ⟨rq, hrq⟩ : ∃ r : Rt, r = ⟨BitVec.ofNat 32 tn, BitVec.ofNat 32 en, BitVec.ofNat 32 gn, UInt8.ofNat an⟩ := ⟨_, rfl⟩
          have HRV := hid (show rq.val = .agg #[.int .u32 (tn : Int), .int .u32 (en : Int), .int .u32 (gn : Int), .int .u8 (an : Int)] by
            obtain ⟨r1, r2, r3, r4⟩ := hr4
            unfold Rt.val
            rw [hrq]
            simp only [BitVec.toNat_ofNat, UInt8.toNat_ofNat', Nat.mod_eq_of_lt (show tn < 2 ^ 32 by omega), Nat.mod_eq_of_lt (show en < 2 ^ 32 by omega), Nat.mod_eq_of_lt (show gn < 2 ^ 32 by omega), Nat.mod_eq_of_lt (show an < 2 ^ 8 by omega)])
          have HI := hid hi
          have HD := hid hd
          have HK40 := hid h40
          have HOLD := hid (show Bq.data ≠ [] → ∀ q, (Value.slice A K C).ownBlock = some q → q < wa.heap.size from fun hne q hq => Nat.lt_of_lt_of_le (rd_old HR0.out hne q hq) hsa)
          clear hrow hBl hBr q0 q1 q2 q3 hrq hr4 hn hi hd hK
          go_upto_region 11 with fail
          obtain ⟨wo, hwo⟩ : ∃ z, z = wr.alloc (.cells #[.int .u8 (d : Int), .int .i64 i, .int .u8 (n0 : Int), .int .u32 (n1 : Int), .int .u32 (n2 : Int), .int .u32 (n3 : Int), .slice A L C, .int .u32 (tn : Int), .int .u32 (en : Int), .int .u32 (gn : Int), .int .u8 (an : Int)] 38) := ⟨_, rfl⟩
          rw [← hwo]
          obtain ⟨g12, hg12⟩ : ∃ g, g = wr.heap.size := ⟨_, rfl⟩
          rw [← hg12]
          have hbo : Below wr.heap.size wr wo := by rw [hwo]; exact (Below.refl _ _).alloc (Nat.le_refl _) _
          have HGo := hid (show wo.heap[g12]? = some (.cells #[.int .u8 (d : Int), .int .i64 i, .int .u8 (n0 : Int), .int .u32 (n1 : Int), .int .u32 (n2 : Int), .int .u32 (n3 : Int), .slice A L C, .int .u32 (tn : Int), .int .u32 (en : Int), .int .u32 (gn : Int), .int .u8 (an : Int)] 38 (0, 0)) by rw [hwo, hg12]; exact heap_alloc_new _ _)
          have HG12 := hid (show wr.heap.size ≤ g12 by omega)
          have y6 : wo.cell? ⟨g12, 6, none⟩ = some (.slice A L C) := (cell_of_row wo _ _ _ _ _ HGo.out).trans rfl
          have y6f : wo.frozen? ⟨g12, 6, none⟩ = false := frozen_of_row _ _ _ _ _ HGo.out
          clear hwo hg12 c0 c1 c2 c3 c4 c5 c6 c7 c8 c9 c10
          go_upto_region 12 with fail
          simp only [HMIN.out, Int.toNat_natCast]
          obtain ⟨w2, hw2⟩ : ∃ z, z = wo.setCell ⟨g12, 6, none⟩ (.slice A K C) := ⟨_, rfl⟩
          rw [← hw2]
          have HG2 := hid (show w2.heap[g12]? = some (.cells #[.int .u8 (d : Int), .int .i64 i, .int .u8 (n0 : Int), .int .u32 (n1 : Int), .int .u32 (n2 : Int), .int .u32 (n3 : Int), .slice A K C, .int .u32 (tn : Int), .int .u32 (en : Int), .int .u32 (gn : Int), .int .u8 (an : Int)] 38 (0, 0)) by rw [hw2]; exact (setCell_heapS _ _ _ _ _ _ _ HGo.out).trans (by simp))
          have hb2 : Below wr.heap.size wr w2 := by rw [hw2]; exact hbo.setCell (p := ⟨g12, 6, none⟩) HG12.out _
          have HB2 := hid hb2
          have HE := hid (Own.empty w2 w2.heap.size (Nat.le_refl _))
          have HPe := hid ((HR0.out.below (HBw.out.trans (hb2.mono HBw.out.size))).alloc (.cells #[] 5))
          have y62 : w2.cell? ⟨g12, 6, none⟩ = some (.slice A K C) := (cell_of_row w2 _ _ _ _ _ HG2.out).trans rfl
          have y63 : (w2.alloc (.cells #[] 5)).cell? ⟨g12, 6, none⟩ = some (.slice A K C) := (((Below.refl w2.heap.size w2).alloc (Nat.le_refl _) (.cells #[] 5)).cell (p := ⟨g12, 6, none⟩) (World.block_lt_of_cell? _ _ y62)).trans y62
          clear hw2 hb2 hbo y6 y6f
          have y0 : w2.cell? ⟨g12, 0, none⟩ = some (.int .u8 (d : Int)) := (cell_of_row w2 _ _ _ _ _ HG2.out).trans rfl
          have y1f := hid (World.block_lt_of_cell? _ _ y0)
          clear y0
          go_upto_block 2 with (first
            | (at_builtin; (refine appk rfl (.tmp 62) (.tmp 65) rfl w2.heap.size (.slice (some ⟨w2.heap.size, 0, none⟩) 0 0) _ [] Bq.data Bq.data K rfl rfl HE.out HPe.out (by have := HBL.out; simp; omega) rfl (by have := HBL.out; simp; omega) (by simp) ?_); intro ad cp wm hom hgm; have HOM := hid hom; have HBM := hid (((Below.refl w2.heap.size w2).alloc (Nat.le_refl _) (.cells #[] 5)).grown hgm (by simp) (fun q hq => by have := (HE.out.lt q hq).1; omega)); have y0 : wm.cell? ⟨g12, 0, none⟩ = some (.int .u8 (d : Int)) := (cell_of_row wm _ _ _ _ _ ((HBM.out.block g12 (Array.getElem?_eq_some_iff.1 HG2.out).1).trans HG2.out)).trans rfl; clear hom hgm)
            | fail)
          clear y0
          have HMN := hid (show Rd wm (.slice ad K cp) Bq.data from HOM.out.rd)
          have HGB := hid ((HBM.out.block g12 (Array.getElem?_eq_some_iff.1 HG2.out).1).trans HG2.out)
          have hbm := HB2.out.trans (HBM.out.mono HB2.out.size)
          have HM := hid (HS.out.below hbm)
          have HBm := hid (HB.out.trans (hbm.mono HB.out.size))
          have HRD := hid (HR0.out.below (HBA.out.trans (HBm.out.mono hsa)))
          have HRDK := hid (show ∀ W, KT allTs6 wa.heap.size wm W → Rd W (.slice A K C) Bq.data from fun W hW => HR0.out.below (HBA.out.trans ((HBm.out.trans hW.below).mono hsa)))
          have HTY := hid (show ∀ W, Below wm.heap.size wm W → ∀ q, (Value.slice ad K cp).ownBlock = some q → ∃ cs, W.heap[q]? = some (.cells cs 5 (0, 0)) from fun W hW q hq => by
            obtain ⟨cur, hc⟩ := owns_ty HOM.out q hq
            exact ⟨cur, (hW.block q (World.ownsRow.lt HOM.out q hq).2).trans hc⟩)
          clear hbm y62 y63
          go_cut [14, 15, 16, 17, 18, 19, 20, 21, 22] from 69 to 199 (fun v14 v15 v16 v17 v18 v19 v20 v21 v22 wx => v14 = .bool true ∧ ∃ o1, Slb2 wx wa.heap.size w1.heap.size (4 * k + 2 + 2) pv pv o1 o1 ∧ KT allTs6 wa.heap.size wm wx)
          case first =>
            have hparts : d = 0 ∨ d = 1 ∨ d = 2 ∨ d = 3 ∨ d = 4 ∨ d = 5 ∨ d = 6 ∨ d = 7 ∨ d = 8 ∨ 8 < d := by omega
            rcases hparts with hdq | hdq | hdq | hdq | hdq | hdq | hdq | hdq | hdq | hdq
            · as_aux_lemma =>
                subst hdq
                have hz0 : wm.cell? ⟨g12, 0, none⟩ = some (.int .u8 0) := (cell_of_row wm _ _ _ _ _ HGB.out).trans rfl
                have hz1 : wm.cell? ⟨g12, 1, none⟩ = some (.int .i64 i) := (cell_of_row wm _ _ _ _ _ HGB.out).trans rfl
                have hz2 : wm.cell? ⟨g12, 2, none⟩ = some (.int .u8 (n0 : Int)) := (cell_of_row wm _ _ _ _ _ HGB.out).trans rfl
                have hz3 : wm.cell? ⟨g12, 3, none⟩ = some (.int .u32 (n1 : Int)) := (cell_of_row wm _ _ _ _ _ HGB.out).trans rfl
                have hz4 : wm.cell? ⟨g12, 4, none⟩ = some (.int .u32 (n2 : Int)) := (cell_of_row wm _ _ _ _ _ HGB.out).trans rfl
                have hz5 : wm.cell? ⟨g12, 5, none⟩ = some (.int .u32 (n3 : Int)) := (cell_of_row wm _ _ _ _ _ HGB.out).trans rfl
                have hz6 : wm.cell? ⟨g12, 6, none⟩ = some (.slice A K C) := (cell_of_row wm _ _ _ _ _ HGB.out).trans rfl
                have hz7 : wm.cell? ⟨g12, 7, none⟩ = some (.int .u32 (tn : Int)) := (cell_of_row wm _ _ _ _ _ HGB.out).trans rfl
                have hz8 : wm.cell? ⟨g12, 8, none⟩ = some (.int .u32 (en : Int)) := (cell_of_row wm _ _ _ _ _ HGB.out).trans rfl
                have hz9 : wm.cell? ⟨g12, 9, none⟩ = some (.int .u32 (gn : Int)) := (cell_of_row wm _ _ _ _ _ HGB.out).trans rfl
                have hz10 : wm.cell? ⟨g12, 10, none⟩ = some (.int .u8 (an : Int)) := (cell_of_row wm _ _ _ _ _ HGB.out).trans rfl
                go_wp2_with fail
                clear hz0 hz1 hz2 hz3 hz4 hz5 hz6 hz7 hz8 hz9 hz10
                obtain ⟨c, hc⟩ : ∃ c : Int, c = o.elim 6 fun s => (s.putb i Bq).2 := ⟨_, rfl⟩
                obtain ⟨o1, ho1⟩ : ∃ x, x = o.map fun s => (s.putb i Bq).1 := ⟨_, rfl⟩
                have HP := hid (show ∀ W, Slb2 W wa.heap.size w1.heap.size (4 * k) pv pv o o → Below wm.heap.size wm W → Calls Try.prog 12 #[pv, .int .i64 i, .agg #[.int .u8 (n0 : Int), .int .u32 (n1 : Int), .int .u32 (n2 : Int), .int .u32 (n3 : Int), .slice ad K cp]] W (fun e w' => e = .returned (.int .i64 c) ∧ Slb2 w' wa.heap.size w1.heap.size (4 * k + 2) pv pv o1 o ∧ KT allTs6 wa.heap.size W w') from fun W h hW => by
                  subst hc ho1
                  have hh := p_put h (by have := HK40.out; omega) i Bq ad K cp (HMN.out.below hW)
                  rw [HBV.out] at hh
                  exact hh)
                have HR := hid (show ∀ W, Slb2 W wa.heap.size w1.heap.size (4 * k + 2) pv pv o1 o → KT allTs6 wa.heap.size wm W → Calls Try.prog 13 #[pv, .int .i64 i, .agg #[.int .u8 (n0 : Int), .int .u32 (n1 : Int), .int .u32 (n2 : Int), .int .u32 (n3 : Int), .slice A K C]] W (fun e w' => e = .returned (.int .i64 c) ∧ Slb2 w' wa.heap.size w1.heap.size (4 * k + 2 + 2) pv pv o1 o1 ∧ KT allTs6 wa.heap.size W w') from fun W h hW => by
                  subst hc ho1
                  have hh := r_put h (by have := HK40.out; omega) i Bq A K C (HRDK.out W hW) HBL.out
                  rw [HBV.out] at hh
                  exact hh)
                clear hc ho1
                have hs0 : wm.drew.cell? ⟨g12, 1, none⟩ = some (.int .i64 i) ∧ wm.drew.cell? ⟨g12, 2, none⟩ = some (.int .u8 (n0 : Int)) ∧ wm.drew.cell? ⟨g12, 3, none⟩ = some (.int .u32 (n1 : Int)) ∧ wm.drew.cell? ⟨g12, 4, none⟩ = some (.int .u32 (n2 : Int)) ∧ wm.drew.cell? ⟨g12, 5, none⟩ = some (.int .u32 (n3 : Int)) ∧ wm.drew.cell? ⟨g12, 6, none⟩ = some (.slice A K C) := ⟨(cell_of_row _ _ _ _ _ _ (show wm.drew.heap[g12]? = _ from HGB.out)).trans rfl, (cell_of_row _ _ _ _ _ _ (show wm.drew.heap[g12]? = _ from HGB.out)).trans rfl, (cell_of_row _ _ _ _ _ _ (show wm.drew.heap[g12]? = _ from HGB.out)).trans rfl, (cell_of_row _ _ _ _ _ _ (show wm.drew.heap[g12]? = _ from HGB.out)).trans rfl, (cell_of_row _ _ _ _ _ _ (show wm.drew.heap[g12]? = _ from HGB.out)).trans rfl, (cell_of_row _ _ _ _ _ _ (show wm.drew.heap[g12]? = _ from HGB.out)).trans rfl⟩
                have HMd := hid (show Slb2 wm.drew wa.heap.size w1.heap.size (4 * k) pv pv o o from HM.out.below (below_drw (Below.refl _ _)))
                go_region_held3 (fun w' => w'.cell? ⟨g12, 1, none⟩ = some (.int .i64 i) ∧ w'.cell? ⟨g12, 2, none⟩ = some (.int .u8 (n0 : Int)) ∧ w'.cell? ⟨g12, 3, none⟩ = some (.int .u32 (n1 : Int)) ∧ w'.cell? ⟨g12, 4, none⟩ = some (.int .u32 (n2 : Int)) ∧ w'.cell? ⟨g12, 5, none⟩ = some (.int .u32 (n3 : Int)) ∧ w'.cell? ⟨g12, 6, none⟩ = some (.slice A K C))
                  (first | assumption | exact hs0 | fail)
                  (first
                    | (go_at_call 12; refine (HP.out _ HMd.out (below_drw (Below.refl _ _))).mono ?_; rintro e w5 ⟨rfl, h5, k5⟩; have H5 := hid h5; have K5 := hid ((KT.refl allTs6 wa.heap.size wm).drew.trans k5); have hg5 := K5.out.block HGB.out (by decide); have hs5 : w5.cell? ⟨g12, 1, none⟩ = some (.int .i64 i) ∧ w5.cell? ⟨g12, 2, none⟩ = some (.int .u8 (n0 : Int)) ∧ w5.cell? ⟨g12, 3, none⟩ = some (.int .u32 (n1 : Int)) ∧ w5.cell? ⟨g12, 4, none⟩ = some (.int .u32 (n2 : Int)) ∧ w5.cell? ⟨g12, 5, none⟩ = some (.int .u32 (n3 : Int)) ∧ w5.cell? ⟨g12, 6, none⟩ = some (.slice A K C) := ⟨(cell_of_row _ _ _ _ _ _ hg5).trans rfl, (cell_of_row _ _ _ _ _ _ hg5).trans rfl, (cell_of_row _ _ _ _ _ _ hg5).trans rfl, (cell_of_row _ _ _ _ _ _ hg5).trans rfl, (cell_of_row _ _ _ _ _ _ hg5).trans rfl, (cell_of_row _ _ _ _ _ _ hg5).trans rfl⟩; clear h5 k5 hg5)
                    | (go_at_call 13; refine (HR.out _ H5.out K5.out).mono ?_; rintro e w6 ⟨rfl, h6, k6⟩; have H6 := hid h6; have K6 := hid (K5.out.trans k6); have hg6 := K6.out.block HGB.out (by decide); have hs6 : w6.cell? ⟨g12, 1, none⟩ = some (.int .i64 i) ∧ w6.cell? ⟨g12, 2, none⟩ = some (.int .u8 (n0 : Int)) ∧ w6.cell? ⟨g12, 3, none⟩ = some (.int .u32 (n1 : Int)) ∧ w6.cell? ⟨g12, 4, none⟩ = some (.int .u32 (n2 : Int)) ∧ w6.cell? ⟨g12, 5, none⟩ = some (.int .u32 (n3 : Int)) ∧ w6.cell? ⟨g12, 6, none⟩ = some (.slice A K C) := ⟨(cell_of_row _ _ _ _ _ _ hg6).trans rfl, (cell_of_row _ _ _ _ _ _ hg6).trans rfl, (cell_of_row _ _ _ _ _ _ hg6).trans rfl, (cell_of_row _ _ _ _ _ _ hg6).trans rfl, (cell_of_row _ _ _ _ _ _ hg6).trans rfl, (cell_of_row _ _ _ _ _ _ hg6).trans rfl⟩; clear h6 k6 hg6)
                    | fail)
                go_wp2_with fail
                go_meet
                case rel => exact ⟨by simp, o1, H6.out, K6.out⟩
            · as_aux_lemma =>
                subst hdq
                have hz0 : wm.cell? ⟨g12, 0, none⟩ = some (.int .u8 1) := (cell_of_row wm _ _ _ _ _ HGB.out).trans rfl
                have hz1 : wm.cell? ⟨g12, 1, none⟩ = some (.int .i64 i) := (cell_of_row wm _ _ _ _ _ HGB.out).trans rfl
                have hz2 : wm.cell? ⟨g12, 2, none⟩ = some (.int .u8 (n0 : Int)) := (cell_of_row wm _ _ _ _ _ HGB.out).trans rfl
                have hz3 : wm.cell? ⟨g12, 3, none⟩ = some (.int .u32 (n1 : Int)) := (cell_of_row wm _ _ _ _ _ HGB.out).trans rfl
                have hz4 : wm.cell? ⟨g12, 4, none⟩ = some (.int .u32 (n2 : Int)) := (cell_of_row wm _ _ _ _ _ HGB.out).trans rfl
                have hz5 : wm.cell? ⟨g12, 5, none⟩ = some (.int .u32 (n3 : Int)) := (cell_of_row wm _ _ _ _ _ HGB.out).trans rfl
                have hz6 : wm.cell? ⟨g12, 6, none⟩ = some (.slice A K C) := (cell_of_row wm _ _ _ _ _ HGB.out).trans rfl
                have hz7 : wm.cell? ⟨g12, 7, none⟩ = some (.int .u32 (tn : Int)) := (cell_of_row wm _ _ _ _ _ HGB.out).trans rfl
                have hz8 : wm.cell? ⟨g12, 8, none⟩ = some (.int .u32 (en : Int)) := (cell_of_row wm _ _ _ _ _ HGB.out).trans rfl
                have hz9 : wm.cell? ⟨g12, 9, none⟩ = some (.int .u32 (gn : Int)) := (cell_of_row wm _ _ _ _ _ HGB.out).trans rfl
                have hz10 : wm.cell? ⟨g12, 10, none⟩ = some (.int .u8 (an : Int)) := (cell_of_row wm _ _ _ _ _ HGB.out).trans rfl
                go_wp2_with fail
                clear hz0 hz1 hz2 hz3 hz4 hz5 hz6 hz7 hz8 hz9 hz10
                obtain ⟨c, hc⟩ : ∃ c : Int, c = o.elim 6 fun s => (s.putb i Bq).2 := ⟨_, rfl⟩
                obtain ⟨o1, ho1⟩ : ∃ x, x = o.map fun s => (s.putb i Bq).1 := ⟨_, rfl⟩
                have HP := hid (show ∀ W, Slb2 W wa.heap.size w1.heap.size (4 * k) pv pv o o → Below wm.heap.size wm W → Calls Try.prog 12 #[pv, .int .i64 i, .agg #[.int .u8 (n0 : Int), .int .u32 (n1 : Int), .int .u32 (n2 : Int), .int .u32 (n3 : Int), .slice ad K cp]] W (fun e w' => e = .returned (.int .i64 c) ∧ Slb2 w' wa.heap.size w1.heap.size (4 * k + 2) pv pv o1 o ∧ KT allTs6 wa.heap.size W w') from fun W h hW => by
                  subst hc ho1
                  have hh := p_put h (by have := HK40.out; omega) i Bq ad K cp (HMN.out.below hW)
                  rw [HBV.out] at hh
                  exact hh)
                have HR := hid (show ∀ W, Slb2 W wa.heap.size w1.heap.size (4 * k + 2) pv pv o1 o → KT allTs6 wa.heap.size wm W → Calls Try.prog 13 #[pv, .int .i64 i, .agg #[.int .u8 (n0 : Int), .int .u32 (n1 : Int), .int .u32 (n2 : Int), .int .u32 (n3 : Int), .slice A K C]] W (fun e w' => e = .returned (.int .i64 c) ∧ Slb2 w' wa.heap.size w1.heap.size (4 * k + 2 + 2) pv pv o1 o1 ∧ KT allTs6 wa.heap.size W w') from fun W h hW => by
                  subst hc ho1
                  have hh := r_put h (by have := HK40.out; omega) i Bq A K C (HRDK.out W hW) HBL.out
                  rw [HBV.out] at hh
                  exact hh)
                clear hc ho1
                have hs0 : wm.drew.cell? ⟨g12, 1, none⟩ = some (.int .i64 i) ∧ wm.drew.cell? ⟨g12, 2, none⟩ = some (.int .u8 (n0 : Int)) ∧ wm.drew.cell? ⟨g12, 3, none⟩ = some (.int .u32 (n1 : Int)) ∧ wm.drew.cell? ⟨g12, 4, none⟩ = some (.int .u32 (n2 : Int)) ∧ wm.drew.cell? ⟨g12, 5, none⟩ = some (.int .u32 (n3 : Int)) ∧ wm.drew.cell? ⟨g12, 6, none⟩ = some (.slice A K C) := ⟨(cell_of_row _ _ _ _ _ _ (show wm.drew.heap[g12]? = _ from HGB.out)).trans rfl, (cell_of_row _ _ _ _ _ _ (show wm.drew.heap[g12]? = _ from HGB.out)).trans rfl, (cell_of_row _ _ _ _ _ _ (show wm.drew.heap[g12]? = _ from HGB.out)).trans rfl, (cell_of_row _ _ _ _ _ _ (show wm.drew.heap[g12]? = _ from HGB.out)).trans rfl, (cell_of_row _ _ _ _ _ _ (show wm.drew.heap[g12]? = _ from HGB.out)).trans rfl, (cell_of_row _ _ _ _ _ _ (show wm.drew.heap[g12]? = _ from HGB.out)).trans rfl⟩
                have HMd := hid (show Slb2 wm.drew wa.heap.size w1.heap.size (4 * k) pv pv o o from HM.out.below (below_drw (Below.refl _ _)))
                go_region_held3 (fun w' => w'.cell? ⟨g12, 1, none⟩ = some (.int .i64 i) ∧ w'.cell? ⟨g12, 2, none⟩ = some (.int .u8 (n0 : Int)) ∧ w'.cell? ⟨g12, 3, none⟩ = some (.int .u32 (n1 : Int)) ∧ w'.cell? ⟨g12, 4, none⟩ = some (.int .u32 (n2 : Int)) ∧ w'.cell? ⟨g12, 5, none⟩ = some (.int .u32 (n3 : Int)) ∧ w'.cell? ⟨g12, 6, none⟩ = some (.slice A K C))
                  (first | assumption | exact hs0 | fail)
                  (first
                    | (go_at_call 12; refine (HP.out _ HMd.out (below_drw (Below.refl _ _))).mono ?_; rintro e w5 ⟨rfl, h5, k5⟩; have H5 := hid h5; have K5 := hid ((KT.refl allTs6 wa.heap.size wm).drew.trans k5); have hg5 := K5.out.block HGB.out (by decide); have hs5 : w5.cell? ⟨g12, 1, none⟩ = some (.int .i64 i) ∧ w5.cell? ⟨g12, 2, none⟩ = some (.int .u8 (n0 : Int)) ∧ w5.cell? ⟨g12, 3, none⟩ = some (.int .u32 (n1 : Int)) ∧ w5.cell? ⟨g12, 4, none⟩ = some (.int .u32 (n2 : Int)) ∧ w5.cell? ⟨g12, 5, none⟩ = some (.int .u32 (n3 : Int)) ∧ w5.cell? ⟨g12, 6, none⟩ = some (.slice A K C) := ⟨(cell_of_row _ _ _ _ _ _ hg5).trans rfl, (cell_of_row _ _ _ _ _ _ hg5).trans rfl, (cell_of_row _ _ _ _ _ _ hg5).trans rfl, (cell_of_row _ _ _ _ _ _ hg5).trans rfl, (cell_of_row _ _ _ _ _ _ hg5).trans rfl, (cell_of_row _ _ _ _ _ _ hg5).trans rfl⟩; clear h5 k5 hg5)
                    | (go_at_call 13; refine (HR.out _ H5.out K5.out).mono ?_; rintro e w6 ⟨rfl, h6, k6⟩; have H6 := hid h6; have K6 := hid (K5.out.trans k6); have hg6 := K6.out.block HGB.out (by decide); have hs6 : w6.cell? ⟨g12, 1, none⟩ = some (.int .i64 i) ∧ w6.cell? ⟨g12, 2, none⟩ = some (.int .u8 (n0 : Int)) ∧ w6.cell? ⟨g12, 3, none⟩ = some (.int .u32 (n1 : Int)) ∧ w6.cell? ⟨g12, 4, none⟩ = some (.int .u32 (n2 : Int)) ∧ w6.cell? ⟨g12, 5, none⟩ = some (.int .u32 (n3 : Int)) ∧ w6.cell? ⟨g12, 6, none⟩ = some (.slice A K C) := ⟨(cell_of_row _ _ _ _ _ _ hg6).trans rfl, (cell_of_row _ _ _ _ _ _ hg6).trans rfl, (cell_of_row _ _ _ _ _ _ hg6).trans rfl, (cell_of_row _ _ _ _ _ _ hg6).trans rfl, (cell_of_row _ _ _ _ _ _ hg6).trans rfl, (cell_of_row _ _ _ _ _ _ hg6).trans rfl⟩; clear h6 k6 hg6)
                    | fail)
                go_wp2_with fail
                go_meet
                case rel => exact ⟨by simp, o1, H6.out, K6.out⟩
            · as_aux_lemma =>
                subst hdq
                have hz0 : wm.cell? ⟨g12, 0, none⟩ = some (.int .u8 2) := (cell_of_row wm _ _ _ _ _ HGB.out).trans rfl
                have hz1 : wm.cell? ⟨g12, 1, none⟩ = some (.int .i64 i) := (cell_of_row wm _ _ _ _ _ HGB.out).trans rfl
                have hz2 : wm.cell? ⟨g12, 2, none⟩ = some (.int .u8 (n0 : Int)) := (cell_of_row wm _ _ _ _ _ HGB.out).trans rfl
                have hz3 : wm.cell? ⟨g12, 3, none⟩ = some (.int .u32 (n1 : Int)) := (cell_of_row wm _ _ _ _ _ HGB.out).trans rfl
                have hz4 : wm.cell? ⟨g12, 4, none⟩ = some (.int .u32 (n2 : Int)) := (cell_of_row wm _ _ _ _ _ HGB.out).trans rfl
                have hz5 : wm.cell? ⟨g12, 5, none⟩ = some (.int .u32 (n3 : Int)) := (cell_of_row wm _ _ _ _ _ HGB.out).trans rfl
                have hz6 : wm.cell? ⟨g12, 6, none⟩ = some (.slice A K C) := (cell_of_row wm _ _ _ _ _ HGB.out).trans rfl
                have hz7 : wm.cell? ⟨g12, 7, none⟩ = some (.int .u32 (tn : Int)) := (cell_of_row wm _ _ _ _ _ HGB.out).trans rfl
                have hz8 : wm.cell? ⟨g12, 8, none⟩ = some (.int .u32 (en : Int)) := (cell_of_row wm _ _ _ _ _ HGB.out).trans rfl
                have hz9 : wm.cell? ⟨g12, 9, none⟩ = some (.int .u32 (gn : Int)) := (cell_of_row wm _ _ _ _ _ HGB.out).trans rfl
                have hz10 : wm.cell? ⟨g12, 10, none⟩ = some (.int .u8 (an : Int)) := (cell_of_row wm _ _ _ _ _ HGB.out).trans rfl
                obtain ⟨ec, hec⟩ : ∃ e, e = (ogetb o i).1 := ⟨_, rfl⟩
                obtain ⟨G, hG⟩ : ∃ g, g = (ogetb o i).2 := ⟨_, rfl⟩
                obtain ⟨kn, hkn⟩ : ∃ k, k = G.kind.toNat := ⟨_, rfl⟩
                obtain ⟨en2, hen⟩ : ∃ k, k = G.epoch.toNat := ⟨_, rfl⟩
                obtain ⟨xn, hxn⟩ : ∃ k, k = G.a.toNat := ⟨_, rfl⟩
                obtain ⟨yn, hyn⟩ : ∃ k, k = G.b.toNat := ⟨_, rfl⟩
                obtain ⟨n, hn⟩ : ∃ n, n = G.data.length := ⟨_, rfl⟩
                have HGV := hid (fun dv => show G.val dv = .agg #[.int .u8 (kn : Int), .int .u32 (en2 : Int), .int .u32 (xn : Int), .int .u32 (yn : Int), dv] from by unfold Blk.val; rw [hkn, hen, hxn, hyn])
                have HNL := hid hn
                have HP := hid (show Calls Try.prog 14 #[pv, .int .i64 i] wm (fun e w' => ∃ ua uc, e = .returned (.tuple #[.agg #[.int .u8 (kn : Int), .int .u32 (en2 : Int), .int .u32 (xn : Int), .int .u32 (yn : Int), .slice ua n uc], .int .i64 ec]) ∧ Rd w' (.slice ua n uc) G.data ∧ Below wm.heap.size wm w') from by
                  have h := p_get HM.out i
                  rw [← hec, ← hG] at h
                  refine h.mono ?_
                  rintro e w' ⟨dv, rfl, ho, hb⟩
                  obtain ⟨ua, uc, rfl⟩ := rd_slice ho.rd
                  rw [HGV.out, HNL.out]
                  exact ⟨ua, uc, rfl, ho.rd, hb⟩)
                have HR := hid (fun W (hW : Below wm.heap.size wm W) => show Calls Try.prog 15 #[pv, .int .i64 i] W (fun e w' => ∃ ua uc, e = .returned (.tuple #[.agg #[.int .u8 (kn : Int), .int .u32 (en2 : Int), .int .u32 (xn : Int), .int .u32 (yn : Int), .slice ua n uc], .int .i64 ec]) ∧ Rd w' (.slice ua n uc) G.data ∧ Below W.heap.size W w') from by
                  have h := r_get (HM.out.below hW) i
                  rw [← hec, ← hG] at h
                  refine h.mono ?_
                  rintro e w' ⟨dv, rfl, ho, hb⟩
                  obtain ⟨ua, uc, rfl⟩ := rd_slice ho.rd
                  rw [HGV.out, HNL.out]
                  exact ⟨ua, uc, rfl, ho.rd, hb⟩)
                have HSM := hid (fun W ua uc va vc (hu : Rd W (.slice ua n uc) G.data) (hv : Rd W (.slice va n vc) G.data) => show Calls Try.prog 16 #[.agg #[.int .u8 (kn : Int), .int .u32 (en2 : Int), .int .u32 (xn : Int), .int .u32 (yn : Int), .slice ua n uc], .agg #[.int .u8 (kn : Int), .int .u32 (en2 : Int), .int .u32 (xn : Int), .int .u32 (yn : Int), .slice va n vc]] W (fun e w' => e = .returned (.bool true) ∧ Below W.heap.size W w') from by
                  have h := same6_eq G ua va n uc vc W hu hv
                  rw [HGV.out, HGV.out] at h
                  exact h)
                clear hec hG hkn hen hxn hyn hn
                go_upto_region 20 with (first
                  | (go_at_call 14; refine (HP.out).mono ?_; rintro e w3 ⟨ua, uc, rfl, hr3, hb3⟩)
                  | fail)
                obtain ⟨w4, hw4⟩ : ∃ z, z = w3.alloc (.cells #[.int .u8 (kn : Int), .int .u32 (en2 : Int), .int .u32 (xn : Int), .int .u32 (yn : Int), .slice ua n uc] 40) := ⟨_, rfl⟩
                rw [← hw4]
                obtain ⟨g15, hg15⟩ : ∃ g, g = w3.heap.size := ⟨_, rfl⟩
                rw [← hg15]
                have hb4 : Below w3.heap.size w3 w4 := by rw [hw4]; exact (Below.refl _ _).alloc (Nat.le_refl _) _
                have HG4 := hid (show w4.heap[g15]? = some (.cells #[.int .u8 (kn : Int), .int .u32 (en2 : Int), .int .u32 (xn : Int), .int .u32 (yn : Int), .slice ua n uc] 40 (0, 0)) by rw [hw4, hg15]; exact heap_alloc_new _ _)
                have HB4 := hid (hb3.trans (hb4.mono hb3.size))
                have HR4 := hid (hr3.below hb4)
                have hg4b := (HB4.out.block g12 (Array.getElem?_eq_some_iff.1 HGB.out).1).trans HGB.out
                clear hw4 hg15 hb4 hr3 hb3 hz0 hz1 hz2 hz3 hz4 hz5 hz6 hz7 hz8 hz9 hz10
                have hz1 : w4.cell? ⟨g12, 1, none⟩ = some (.int .i64 i) := (cell_of_row w4 _ _ _ _ _ hg4b).trans rfl
                clear hg4b
                go_upto_region 21 with (first
                  | (go_at_call 15; refine (HR.out w4 HB4.out).mono ?_; rintro e w5 ⟨va, vc, rfl, hr5, hb5⟩)
                  | fail)
                obtain ⟨w6, hw6⟩ : ∃ z, z = w5.alloc (.cells #[.int .u8 (kn : Int), .int .u32 (en2 : Int), .int .u32 (xn : Int), .int .u32 (yn : Int), .slice va n vc] 34) := ⟨_, rfl⟩
                rw [← hw6]
                have hb6 : Below w5.heap.size w5 w6 := by rw [hw6]; exact (Below.refl _ _).alloc (Nat.le_refl _) _
                have hg6 : w6.heap[w5.heap.size]? = some (.cells #[.int .u8 (kn : Int), .int .u32 (en2 : Int), .int .u32 (xn : Int), .int .u32 (yn : Int), .slice va n vc] 34 (0, 0)) := by rw [hw6]; exact heap_alloc_new _ _
                have hb46 := hb5.trans (hb6.mono hb5.size)
                have HB6 := hid (HB4.out.trans (hb46.mono HB4.out.size))
                have HU := hid (HR4.out.below hb46)
                have HV := hid (hr5.below hb6)
                have hgu := (hb46.block g15 (Array.getElem?_eq_some_iff.1 HG4.out).1).trans HG4.out
                obtain ⟨⟨m0, m1, m2, m3, m4⟩, -, -, -, -, -⟩ := zero5 hgu
                obtain ⟨⟨p0, p1, p2, p3, p4⟩, -, -, -, -, -⟩ := zero5 hg6
                clear hw6 hb6 hg6 hgu hb46 hr5 hb5 hz1
                go_wp2_with (first
                  | (go_at_call 16; refine (HSM.out w6 ua uc va vc HU.out HV.out).mono ?_; rintro e w7 ⟨rfl, hb7⟩)
                  | fail)
                go_meet
                case rel => exact ⟨by simp, o, (HM.out.below (HB6.out.trans (hb7.mono HB6.out.size))).mono (by omega), KT.of_below (HB6.out.trans (hb7.mono HB6.out.size)) HBm.out.size⟩
            · as_aux_lemma =>
                subst hdq
                have hz0 : wm.cell? ⟨g12, 0, none⟩ = some (.int .u8 3) := (cell_of_row wm _ _ _ _ _ HGB.out).trans rfl
                have hz1 : wm.cell? ⟨g12, 1, none⟩ = some (.int .i64 i) := (cell_of_row wm _ _ _ _ _ HGB.out).trans rfl
                have hz2 : wm.cell? ⟨g12, 2, none⟩ = some (.int .u8 (n0 : Int)) := (cell_of_row wm _ _ _ _ _ HGB.out).trans rfl
                have hz3 : wm.cell? ⟨g12, 3, none⟩ = some (.int .u32 (n1 : Int)) := (cell_of_row wm _ _ _ _ _ HGB.out).trans rfl
                have hz4 : wm.cell? ⟨g12, 4, none⟩ = some (.int .u32 (n2 : Int)) := (cell_of_row wm _ _ _ _ _ HGB.out).trans rfl
                have hz5 : wm.cell? ⟨g12, 5, none⟩ = some (.int .u32 (n3 : Int)) := (cell_of_row wm _ _ _ _ _ HGB.out).trans rfl
                have hz6 : wm.cell? ⟨g12, 6, none⟩ = some (.slice A K C) := (cell_of_row wm _ _ _ _ _ HGB.out).trans rfl
                have hz7 : wm.cell? ⟨g12, 7, none⟩ = some (.int .u32 (tn : Int)) := (cell_of_row wm _ _ _ _ _ HGB.out).trans rfl
                have hz8 : wm.cell? ⟨g12, 8, none⟩ = some (.int .u32 (en : Int)) := (cell_of_row wm _ _ _ _ _ HGB.out).trans rfl
                have hz9 : wm.cell? ⟨g12, 9, none⟩ = some (.int .u32 (gn : Int)) := (cell_of_row wm _ _ _ _ _ HGB.out).trans rfl
                have hz10 : wm.cell? ⟨g12, 10, none⟩ = some (.int .u8 (an : Int)) := (cell_of_row wm _ _ _ _ _ HGB.out).trans rfl
                go_wp2_with fail
                clear hz0 hz1 hz2 hz3 hz4 hz5 hz6 hz7 hz8 hz9 hz10
                obtain ⟨c, hc⟩ : ∃ c : Int, c = o.elim 6 fun s => (s.storeb rq).2 := ⟨_, rfl⟩
                obtain ⟨o1, ho1⟩ : ∃ x, x = o.map fun s => (s.storeb rq).1 := ⟨_, rfl⟩
                have HP := hid (show ∀ W, Slb2 W wa.heap.size w1.heap.size (4 * k) pv pv o o → Below wm.heap.size wm W → Calls Try.prog 17 #[pv, .agg #[.int .u32 (tn : Int), .int .u32 (en : Int), .int .u32 (gn : Int), .int .u8 (an : Int)]] W (fun e w' => e = .returned (.int .i64 c) ∧ Slb2 w' wa.heap.size w1.heap.size (4 * k + 2) pv pv o1 o ∧ KT allTs6 wa.heap.size W w') from fun W h hW => by
                  subst hc ho1
                  have hh := p_store h (by have := HK40.out; omega) rq
                  rw [HRV.out] at hh
                  exact hh)
                have HR := hid (show ∀ W, Slb2 W wa.heap.size w1.heap.size (4 * k + 2) pv pv o1 o → KT allTs6 wa.heap.size wm W → Calls Try.prog 18 #[pv, .agg #[.int .u32 (tn : Int), .int .u32 (en : Int), .int .u32 (gn : Int), .int .u8 (an : Int)]] W (fun e w' => e = .returned (.int .i64 c) ∧ Slb2 w' wa.heap.size w1.heap.size (4 * k + 2 + 2) pv pv o1 o1 ∧ KT allTs6 wa.heap.size W w') from fun W h hW => by
                  subst hc ho1
                  have hh := r_store h (by have := HK40.out; omega) rq
                  rw [HRV.out] at hh
                  exact hh)
                clear hc ho1
                have hs0 : wm.drew.cell? ⟨g12, 7, none⟩ = some (.int .u32 (tn : Int)) ∧ wm.drew.cell? ⟨g12, 8, none⟩ = some (.int .u32 (en : Int)) ∧ wm.drew.cell? ⟨g12, 9, none⟩ = some (.int .u32 (gn : Int)) ∧ wm.drew.cell? ⟨g12, 10, none⟩ = some (.int .u8 (an : Int)) := ⟨(cell_of_row _ _ _ _ _ _ (show wm.drew.heap[g12]? = _ from HGB.out)).trans rfl, (cell_of_row _ _ _ _ _ _ (show wm.drew.heap[g12]? = _ from HGB.out)).trans rfl, (cell_of_row _ _ _ _ _ _ (show wm.drew.heap[g12]? = _ from HGB.out)).trans rfl, (cell_of_row _ _ _ _ _ _ (show wm.drew.heap[g12]? = _ from HGB.out)).trans rfl⟩
                have HMd := hid (show Slb2 wm.drew wa.heap.size w1.heap.size (4 * k) pv pv o o from HM.out.below (below_drw (Below.refl _ _)))
                go_region_held3 (fun w' => w'.cell? ⟨g12, 7, none⟩ = some (.int .u32 (tn : Int)) ∧ w'.cell? ⟨g12, 8, none⟩ = some (.int .u32 (en : Int)) ∧ w'.cell? ⟨g12, 9, none⟩ = some (.int .u32 (gn : Int)) ∧ w'.cell? ⟨g12, 10, none⟩ = some (.int .u8 (an : Int)))
                  (first | assumption | exact hs0 | fail)
                  (first
                    | (go_at_call 17; refine (HP.out _ HMd.out (below_drw (Below.refl _ _))).mono ?_; rintro e w5 ⟨rfl, h5, k5⟩; have H5 := hid h5; have K5 := hid ((KT.refl allTs6 wa.heap.size wm).drew.trans k5); have hg5 := K5.out.block HGB.out (by decide); have hs5 : w5.cell? ⟨g12, 7, none⟩ = some (.int .u32 (tn : Int)) ∧ w5.cell? ⟨g12, 8, none⟩ = some (.int .u32 (en : Int)) ∧ w5.cell? ⟨g12, 9, none⟩ = some (.int .u32 (gn : Int)) ∧ w5.cell? ⟨g12, 10, none⟩ = some (.int .u8 (an : Int)) := ⟨(cell_of_row _ _ _ _ _ _ hg5).trans rfl, (cell_of_row _ _ _ _ _ _ hg5).trans rfl, (cell_of_row _ _ _ _ _ _ hg5).trans rfl, (cell_of_row _ _ _ _ _ _ hg5).trans rfl⟩; clear h5 k5 hg5)
                    | (go_at_call 18; refine (HR.out _ H5.out K5.out).mono ?_; rintro e w6 ⟨rfl, h6, k6⟩; have H6 := hid h6; have K6 := hid (K5.out.trans k6); have hg6 := K6.out.block HGB.out (by decide); have hs6 : w6.cell? ⟨g12, 7, none⟩ = some (.int .u32 (tn : Int)) ∧ w6.cell? ⟨g12, 8, none⟩ = some (.int .u32 (en : Int)) ∧ w6.cell? ⟨g12, 9, none⟩ = some (.int .u32 (gn : Int)) ∧ w6.cell? ⟨g12, 10, none⟩ = some (.int .u8 (an : Int)) := ⟨(cell_of_row _ _ _ _ _ _ hg6).trans rfl, (cell_of_row _ _ _ _ _ _ hg6).trans rfl, (cell_of_row _ _ _ _ _ _ hg6).trans rfl, (cell_of_row _ _ _ _ _ _ hg6).trans rfl⟩; clear h6 k6 hg6)
                    | fail)
                go_wp2_with fail
                go_meet
                case rel => exact ⟨by simp, o1, H6.out, K6.out⟩
            · as_aux_lemma =>
                subst hdq
                have hz0 : wm.cell? ⟨g12, 0, none⟩ = some (.int .u8 4) := (cell_of_row wm _ _ _ _ _ HGB.out).trans rfl
                have hz1 : wm.cell? ⟨g12, 1, none⟩ = some (.int .i64 i) := (cell_of_row wm _ _ _ _ _ HGB.out).trans rfl
                have hz2 : wm.cell? ⟨g12, 2, none⟩ = some (.int .u8 (n0 : Int)) := (cell_of_row wm _ _ _ _ _ HGB.out).trans rfl
                have hz3 : wm.cell? ⟨g12, 3, none⟩ = some (.int .u32 (n1 : Int)) := (cell_of_row wm _ _ _ _ _ HGB.out).trans rfl
                have hz4 : wm.cell? ⟨g12, 4, none⟩ = some (.int .u32 (n2 : Int)) := (cell_of_row wm _ _ _ _ _ HGB.out).trans rfl
                have hz5 : wm.cell? ⟨g12, 5, none⟩ = some (.int .u32 (n3 : Int)) := (cell_of_row wm _ _ _ _ _ HGB.out).trans rfl
                have hz6 : wm.cell? ⟨g12, 6, none⟩ = some (.slice A K C) := (cell_of_row wm _ _ _ _ _ HGB.out).trans rfl
                have hz7 : wm.cell? ⟨g12, 7, none⟩ = some (.int .u32 (tn : Int)) := (cell_of_row wm _ _ _ _ _ HGB.out).trans rfl
                have hz8 : wm.cell? ⟨g12, 8, none⟩ = some (.int .u32 (en : Int)) := (cell_of_row wm _ _ _ _ _ HGB.out).trans rfl
                have hz9 : wm.cell? ⟨g12, 9, none⟩ = some (.int .u32 (gn : Int)) := (cell_of_row wm _ _ _ _ _ HGB.out).trans rfl
                have hz10 : wm.cell? ⟨g12, 10, none⟩ = some (.int .u8 (an : Int)) := (cell_of_row wm _ _ _ _ _ HGB.out).trans rfl
                obtain ⟨ec, hec⟩ : ∃ e, e = (oloadb o).2 := ⟨_, rfl⟩
                obtain ⟨G, hG⟩ : ∃ g, g = (oloadb o).1 := ⟨_, rfl⟩
                obtain ⟨nt, hnt⟩ : ∃ k, k = G.turn.toNat := ⟨_, rfl⟩
                obtain ⟨ne, hne⟩ : ∃ k, k = G.epoch.toNat := ⟨_, rfl⟩
                obtain ⟨ng, hng⟩ : ∃ k, k = G.gen.toNat := ⟨_, rfl⟩
                obtain ⟨na, hna⟩ : ∃ k, k = G.area.toNat := ⟨_, rfl⟩
                have HGV := hid (show G.val = .agg #[.int .u32 (nt : Int), .int .u32 (ne : Int), .int .u32 (ng : Int), .int .u8 (na : Int)] by unfold Rt.val; rw [hnt, hne, hng, hna])
                have HP := hid (show Calls Try.prog 19 #[pv] wm (fun e w' => e = .returned (.tuple #[.agg #[.int .u32 (nt : Int), .int .u32 (ne : Int), .int .u32 (ng : Int), .int .u8 (na : Int)], .int .i64 ec]) ∧ Below wm.heap.size wm w') from by
                  have h := p_load HM.out
                  rw [← hec, ← hG, HGV.out] at h
                  exact h)
                have HR := hid (fun W (hW : Below wm.heap.size wm W) => show Calls Try.prog 20 #[pv] W (fun e w' => e = .returned (.tuple #[.agg #[.int .u32 (nt : Int), .int .u32 (ne : Int), .int .u32 (ng : Int), .int .u8 (na : Int)], .int .i64 ec]) ∧ Below W.heap.size W w') from by
                  have h := r_load (HM.out.below hW)
                  rw [← hec, ← hG, HGV.out] at h
                  exact h)
                clear hec hG hnt hne hng hna
                go_upto_region 26 with (first
                  | (go_at_call 19; refine (HP.out).mono ?_; rintro e w3 ⟨rfl, hb3⟩)
                  | fail)
                obtain ⟨w4, hw4⟩ : ∃ z, z = w3.alloc (.cells #[.int .u32 (nt : Int), .int .u32 (ne : Int), .int .u32 (ng : Int), .int .u8 (na : Int)] 48) := ⟨_, rfl⟩
                rw [← hw4]
                obtain ⟨g19, hg19⟩ : ∃ g, g = w3.heap.size := ⟨_, rfl⟩
                rw [← hg19]
                have hb4 : Below w3.heap.size w3 w4 := by rw [hw4]; exact (Below.refl _ _).alloc (Nat.le_refl _) _
                have HG4 := hid (show w4.heap[g19]? = some (.cells #[.int .u32 (nt : Int), .int .u32 (ne : Int), .int .u32 (ng : Int), .int .u8 (na : Int)] 48 (0, 0)) by rw [hw4, hg19]; exact heap_alloc_new _ _)
                have HB4 := hid (hb3.trans (hb4.mono hb3.size))
                clear hw4 hg19 hb4 hb3 hz0 hz1 hz2 hz3 hz4 hz5 hz6 hz7 hz8 hz9 hz10
                go_upto_region 27 with (first
                  | (go_at_call 20; refine (HR.out w4 HB4.out).mono ?_; rintro e w5 ⟨rfl, hb5⟩)
                  | fail)
                obtain ⟨w6, hw6⟩ : ∃ z, z = w5.alloc (.cells #[.int .u32 (nt : Int), .int .u32 (ne : Int), .int .u32 (ng : Int), .int .u8 (na : Int)] 36) := ⟨_, rfl⟩
                rw [← hw6]
                have hb6 : Below w5.heap.size w5 w6 := by rw [hw6]; exact (Below.refl _ _).alloc (Nat.le_refl _) _
                have hg6 : w6.heap[w5.heap.size]? = some (.cells #[.int .u32 (nt : Int), .int .u32 (ne : Int), .int .u32 (ng : Int), .int .u8 (na : Int)] 36 (0, 0)) := by rw [hw6]; exact heap_alloc_new _ _
                have hb46 := hb5.trans (hb6.mono hb5.size)
                have HB6 := hid (HB4.out.trans (hb46.mono HB4.out.size))
                have hgu := (hb46.block g19 (Array.getElem?_eq_some_iff.1 HG4.out).1).trans HG4.out
                obtain ⟨⟨m0, m1, m2, m3⟩, -, -, -, -⟩ := zero4 hgu
                obtain ⟨⟨p0, p1, p2, p3⟩, -, -, -, -⟩ := zero4 hg6
                clear hw6 hb6 hg6 hgu hb46 hb5
                go_wp2_with fail
                go_meet
                case rel => exact ⟨by simp, o, (HM.out.below HB6.out).mono (by omega), KT.of_below HB6.out HBm.out.size⟩
            · as_aux_lemma =>
                subst hdq
                have hz0 : wm.cell? ⟨g12, 0, none⟩ = some (.int .u8 5) := (cell_of_row wm _ _ _ _ _ HGB.out).trans rfl
                have hz1 : wm.cell? ⟨g12, 1, none⟩ = some (.int .i64 i) := (cell_of_row wm _ _ _ _ _ HGB.out).trans rfl
                have hz2 : wm.cell? ⟨g12, 2, none⟩ = some (.int .u8 (n0 : Int)) := (cell_of_row wm _ _ _ _ _ HGB.out).trans rfl
                have hz3 : wm.cell? ⟨g12, 3, none⟩ = some (.int .u32 (n1 : Int)) := (cell_of_row wm _ _ _ _ _ HGB.out).trans rfl
                have hz4 : wm.cell? ⟨g12, 4, none⟩ = some (.int .u32 (n2 : Int)) := (cell_of_row wm _ _ _ _ _ HGB.out).trans rfl
                have hz5 : wm.cell? ⟨g12, 5, none⟩ = some (.int .u32 (n3 : Int)) := (cell_of_row wm _ _ _ _ _ HGB.out).trans rfl
                have hz6 : wm.cell? ⟨g12, 6, none⟩ = some (.slice A K C) := (cell_of_row wm _ _ _ _ _ HGB.out).trans rfl
                have hz7 : wm.cell? ⟨g12, 7, none⟩ = some (.int .u32 (tn : Int)) := (cell_of_row wm _ _ _ _ _ HGB.out).trans rfl
                have hz8 : wm.cell? ⟨g12, 8, none⟩ = some (.int .u32 (en : Int)) := (cell_of_row wm _ _ _ _ _ HGB.out).trans rfl
                have hz9 : wm.cell? ⟨g12, 9, none⟩ = some (.int .u32 (gn : Int)) := (cell_of_row wm _ _ _ _ _ HGB.out).trans rfl
                have hz10 : wm.cell? ⟨g12, 10, none⟩ = some (.int .u8 (an : Int)) := (cell_of_row wm _ _ _ _ _ HGB.out).trans rfl
                obtain ⟨c, hc⟩ : ∃ c : Int, c = o.elim 6 fun s => s.flushed.2 := ⟨_, rfl⟩
                obtain ⟨o1, ho1⟩ : ∃ x, x = o.map fun s => s.flushed.1 := ⟨_, rfl⟩
                have HP := hid (show ∀ W, Slb2 W wa.heap.size w1.heap.size (4 * k) pv pv o o → Below wm.heap.size wm W → Calls Try.prog 21 #[pv] W (fun e w' => e = .returned (.int .i64 c) ∧ Slb2 w' wa.heap.size w1.heap.size (4 * k + 2) pv pv o1 o ∧ KT allTs6 wa.heap.size W w') from fun W h hW => by
                  subst hc ho1
                  exact p_flush h (by have := HK40.out; omega))
                have HR := hid (show ∀ W, Slb2 W wa.heap.size w1.heap.size (4 * k + 2) pv pv o1 o → KT allTs6 wa.heap.size wm W → Calls Try.prog 22 #[pv] W (fun e w' => e = .returned (.int .i64 c) ∧ Slb2 w' wa.heap.size w1.heap.size (4 * k + 2 + 2) pv pv o1 o1 ∧ KT allTs6 wa.heap.size W w') from fun W h hW => by
                  subst hc ho1
                  exact r_flush h (by have := HK40.out; omega))
                clear hc ho1
                go_wp2_with (first
                  | (go_at_call 21; refine (HP.out _ HM.out (Below.refl _ _)).mono ?_; rintro e w5 ⟨rfl, h5, k5⟩; have H5 := hid h5; have K5 := hid k5; clear h5 k5)
                  | (go_at_call 22; refine (HR.out _ H5.out K5.out).mono ?_; rintro e w6 ⟨rfl, h6, k6⟩; have H6 := hid h6; have K6 := hid (K5.out.trans k6); clear h6 k6)
                  | fail)
                go_meet
                case rel => exact ⟨by simp, o1, H6.out, K6.out⟩
            · as_aux_lemma =>
                subst hdq
                have hz0 : wm.cell? ⟨g12, 0, none⟩ = some (.int .u8 6) := (cell_of_row wm _ _ _ _ _ HGB.out).trans rfl
                have hz1 : wm.cell? ⟨g12, 1, none⟩ = some (.int .i64 i) := (cell_of_row wm _ _ _ _ _ HGB.out).trans rfl
                have hz2 : wm.cell? ⟨g12, 2, none⟩ = some (.int .u8 (n0 : Int)) := (cell_of_row wm _ _ _ _ _ HGB.out).trans rfl
                have hz3 : wm.cell? ⟨g12, 3, none⟩ = some (.int .u32 (n1 : Int)) := (cell_of_row wm _ _ _ _ _ HGB.out).trans rfl
                have hz4 : wm.cell? ⟨g12, 4, none⟩ = some (.int .u32 (n2 : Int)) := (cell_of_row wm _ _ _ _ _ HGB.out).trans rfl
                have hz5 : wm.cell? ⟨g12, 5, none⟩ = some (.int .u32 (n3 : Int)) := (cell_of_row wm _ _ _ _ _ HGB.out).trans rfl
                have hz6 : wm.cell? ⟨g12, 6, none⟩ = some (.slice A K C) := (cell_of_row wm _ _ _ _ _ HGB.out).trans rfl
                have hz7 : wm.cell? ⟨g12, 7, none⟩ = some (.int .u32 (tn : Int)) := (cell_of_row wm _ _ _ _ _ HGB.out).trans rfl
                have hz8 : wm.cell? ⟨g12, 8, none⟩ = some (.int .u32 (en : Int)) := (cell_of_row wm _ _ _ _ _ HGB.out).trans rfl
                have hz9 : wm.cell? ⟨g12, 9, none⟩ = some (.int .u32 (gn : Int)) := (cell_of_row wm _ _ _ _ _ HGB.out).trans rfl
                have hz10 : wm.cell? ⟨g12, 10, none⟩ = some (.int .u8 (an : Int)) := (cell_of_row wm _ _ _ _ _ HGB.out).trans rfl
                go_wp2_with fail
                clear hz0 hz1 hz2 hz3 hz4 hz5 hz6 hz7 hz8 hz9 hz10
                obtain ⟨c, hc⟩ : ∃ c : Int, c = o.elim 6 fun s => (s.write i Bq.data).2 := ⟨_, rfl⟩
                obtain ⟨o1, ho1⟩ : ∃ x, x = o.map fun s => (s.write i Bq.data).1 := ⟨_, rfl⟩
                have HP := hid (show ∀ W, Slb2 W wa.heap.size w1.heap.size (4 * k) pv pv o o → Below wm.heap.size wm W → Calls Try.prog 23 #[pv, .int .i64 i, .slice ad K cp] W (fun e w' => e = .returned (.int .i64 c) ∧ Slb2 w' wa.heap.size w1.heap.size (4 * k + 2) pv pv o1 o ∧ KT allTs6 wa.heap.size W w') from fun W h hW => by
                  subst hc ho1
                  exact p_write h (by have := HK40.out; omega) i ad K cp Bq.data (HMN.out.below hW))
                have HR := hid (show ∀ W, Slb2 W wa.heap.size w1.heap.size (4 * k + 2) pv pv o1 o → KT allTs6 wa.heap.size wm W → Calls Try.prog 24 #[pv, .int .i64 i, .slice A K C] W (fun e w' => e = .returned (.int .i64 c) ∧ Slb2 w' wa.heap.size w1.heap.size (4 * k + 2 + 2) pv pv o1 o1 ∧ KT allTs6 wa.heap.size W w') from fun W h hW => by
                  subst hc ho1
                  exact r_write h (by have := HK40.out; omega) i A K C Bq.data (HRDK.out W hW) HOLD.out)
                clear hc ho1
                have hs0 : wm.drew.cell? ⟨g12, 1, none⟩ = some (.int .i64 i) ∧ wm.drew.cell? ⟨g12, 6, none⟩ = some (.slice A K C) := ⟨(cell_of_row _ _ _ _ _ _ (show wm.drew.heap[g12]? = _ from HGB.out)).trans rfl, (cell_of_row _ _ _ _ _ _ (show wm.drew.heap[g12]? = _ from HGB.out)).trans rfl⟩
                have HMd := hid (show Slb2 wm.drew wa.heap.size w1.heap.size (4 * k) pv pv o o from HM.out.below (below_drw (Below.refl _ _)))
                go_region_held3 (fun w' => w'.cell? ⟨g12, 1, none⟩ = some (.int .i64 i) ∧ w'.cell? ⟨g12, 6, none⟩ = some (.slice A K C))
                  (first | assumption | exact hs0 | fail)
                  (first
                    | (go_at_call 23; refine (HP.out _ HMd.out (below_drw (Below.refl _ _))).mono ?_; rintro e w5 ⟨rfl, h5, k5⟩; have H5 := hid h5; have K5 := hid ((KT.refl allTs6 wa.heap.size wm).drew.trans k5); have hg5 := K5.out.block HGB.out (by decide); have hs5 : w5.cell? ⟨g12, 1, none⟩ = some (.int .i64 i) ∧ w5.cell? ⟨g12, 6, none⟩ = some (.slice A K C) := ⟨(cell_of_row _ _ _ _ _ _ hg5).trans rfl, (cell_of_row _ _ _ _ _ _ hg5).trans rfl⟩; clear h5 k5 hg5)
                    | (go_at_call 24; refine (HR.out _ H5.out K5.out).mono ?_; rintro e w6 ⟨rfl, h6, k6⟩; have H6 := hid h6; have K6 := hid (K5.out.trans k6); have hg6 := K6.out.block HGB.out (by decide); have hs6 : w6.cell? ⟨g12, 1, none⟩ = some (.int .i64 i) ∧ w6.cell? ⟨g12, 6, none⟩ = some (.slice A K C) := ⟨(cell_of_row _ _ _ _ _ _ hg6).trans rfl, (cell_of_row _ _ _ _ _ _ hg6).trans rfl⟩; clear h6 k6 hg6)
                    | fail)
                go_wp2_with fail
                go_meet
                case rel => exact ⟨by simp, o1, H6.out, K6.out⟩
            · as_aux_lemma =>
                subst hdq
                have hz0 : wm.cell? ⟨g12, 0, none⟩ = some (.int .u8 7) := (cell_of_row wm _ _ _ _ _ HGB.out).trans rfl
                have hz1 : wm.cell? ⟨g12, 1, none⟩ = some (.int .i64 i) := (cell_of_row wm _ _ _ _ _ HGB.out).trans rfl
                have hz2 : wm.cell? ⟨g12, 2, none⟩ = some (.int .u8 (n0 : Int)) := (cell_of_row wm _ _ _ _ _ HGB.out).trans rfl
                have hz3 : wm.cell? ⟨g12, 3, none⟩ = some (.int .u32 (n1 : Int)) := (cell_of_row wm _ _ _ _ _ HGB.out).trans rfl
                have hz4 : wm.cell? ⟨g12, 4, none⟩ = some (.int .u32 (n2 : Int)) := (cell_of_row wm _ _ _ _ _ HGB.out).trans rfl
                have hz5 : wm.cell? ⟨g12, 5, none⟩ = some (.int .u32 (n3 : Int)) := (cell_of_row wm _ _ _ _ _ HGB.out).trans rfl
                have hz6 : wm.cell? ⟨g12, 6, none⟩ = some (.slice A K C) := (cell_of_row wm _ _ _ _ _ HGB.out).trans rfl
                have hz7 : wm.cell? ⟨g12, 7, none⟩ = some (.int .u32 (tn : Int)) := (cell_of_row wm _ _ _ _ _ HGB.out).trans rfl
                have hz8 : wm.cell? ⟨g12, 8, none⟩ = some (.int .u32 (en : Int)) := (cell_of_row wm _ _ _ _ _ HGB.out).trans rfl
                have hz9 : wm.cell? ⟨g12, 9, none⟩ = some (.int .u32 (gn : Int)) := (cell_of_row wm _ _ _ _ _ HGB.out).trans rfl
                have hz10 : wm.cell? ⟨g12, 10, none⟩ = some (.int .u8 (an : Int)) := (cell_of_row wm _ _ _ _ _ HGB.out).trans rfl
                go_wp2_with fail
                clear hz0 hz1 hz2 hz3 hz4 hz5 hz6 hz7 hz8 hz9 hz10
                obtain ⟨c, hc⟩ : ∃ c : Int, c = o.elim 6 fun s => 0 := ⟨_, rfl⟩
                obtain ⟨o1, ho1⟩ : ∃ x, x = o.map fun s => s.crash Bq.data i := ⟨_, rfl⟩
                have HP := hid (show ∀ W, Slb2 W wa.heap.size w1.heap.size (4 * k) pv pv o o → Below wm.heap.size wm W → Calls Try.prog 25 #[pv, .slice ad K cp, .int .i64 i] W (fun e w' => e = .returned (.int .i64 c) ∧ Slb2 w' wa.heap.size w1.heap.size (4 * k + 2) pv pv o1 o ∧ KT allTs6 wa.heap.size W w') from fun W h hW => by
                  subst hc ho1
                  exact p_crash h (by have := HK40.out; omega) i ad K cp Bq.data (HMN.out.below hW) (fun _ q hq => HTY.out W hW q hq))
                have HR := hid (show ∀ W, Slb2 W wa.heap.size w1.heap.size (4 * k + 2) pv pv o1 o → KT allTs6 wa.heap.size wm W → Calls Try.prog 26 #[pv, .slice A K C, .int .i64 i] W (fun e w' => e = .returned (.int .i64 c) ∧ Slb2 w' wa.heap.size w1.heap.size (4 * k + 2 + 2) pv pv o1 o1 ∧ KT allTs6 wa.heap.size W w') from fun W h hW => by
                  subst hc ho1
                  exact r_crash h (by have := HK40.out; omega) i A K C Bq.data (HRDK.out W hW) HOLD.out)
                clear hc ho1
                have hs0 : wm.drew.cell? ⟨g12, 1, none⟩ = some (.int .i64 i) ∧ wm.drew.cell? ⟨g12, 6, none⟩ = some (.slice A K C) := ⟨(cell_of_row _ _ _ _ _ _ (show wm.drew.heap[g12]? = _ from HGB.out)).trans rfl, (cell_of_row _ _ _ _ _ _ (show wm.drew.heap[g12]? = _ from HGB.out)).trans rfl⟩
                have HMd := hid (show Slb2 wm.drew wa.heap.size w1.heap.size (4 * k) pv pv o o from HM.out.below (below_drw (Below.refl _ _)))
                go_region_held3 (fun w' => w'.cell? ⟨g12, 1, none⟩ = some (.int .i64 i) ∧ w'.cell? ⟨g12, 6, none⟩ = some (.slice A K C))
                  (first | assumption | exact hs0 | fail)
                  (first
                    | (go_at_call 25; refine (HP.out _ HMd.out (below_drw (Below.refl _ _))).mono ?_; rintro e w5 ⟨rfl, h5, k5⟩; have H5 := hid h5; have K5 := hid ((KT.refl allTs6 wa.heap.size wm).drew.trans k5); have hg5 := K5.out.block HGB.out (by decide); have hs5 : w5.cell? ⟨g12, 1, none⟩ = some (.int .i64 i) ∧ w5.cell? ⟨g12, 6, none⟩ = some (.slice A K C) := ⟨(cell_of_row _ _ _ _ _ _ hg5).trans rfl, (cell_of_row _ _ _ _ _ _ hg5).trans rfl⟩; clear h5 k5 hg5)
                    | (go_at_call 26; refine (HR.out _ H5.out K5.out).mono ?_; rintro e w6 ⟨rfl, h6, k6⟩; have H6 := hid h6; have K6 := hid (K5.out.trans k6); have hg6 := K6.out.block HGB.out (by decide); have hs6 : w6.cell? ⟨g12, 1, none⟩ = some (.int .i64 i) ∧ w6.cell? ⟨g12, 6, none⟩ = some (.slice A K C) := ⟨(cell_of_row _ _ _ _ _ _ hg6).trans rfl, (cell_of_row _ _ _ _ _ _ hg6).trans rfl⟩; clear h6 k6 hg6)
                    | fail)
                go_wp2_with fail
                go_meet
                case rel => exact ⟨by simp, o1, H6.out, K6.out⟩
            · as_aux_lemma =>
                subst hdq
                have hz0 : wm.cell? ⟨g12, 0, none⟩ = some (.int .u8 8) := (cell_of_row wm _ _ _ _ _ HGB.out).trans rfl
                have hz1 : wm.cell? ⟨g12, 1, none⟩ = some (.int .i64 i) := (cell_of_row wm _ _ _ _ _ HGB.out).trans rfl
                have hz2 : wm.cell? ⟨g12, 2, none⟩ = some (.int .u8 (n0 : Int)) := (cell_of_row wm _ _ _ _ _ HGB.out).trans rfl
                have hz3 : wm.cell? ⟨g12, 3, none⟩ = some (.int .u32 (n1 : Int)) := (cell_of_row wm _ _ _ _ _ HGB.out).trans rfl
                have hz4 : wm.cell? ⟨g12, 4, none⟩ = some (.int .u32 (n2 : Int)) := (cell_of_row wm _ _ _ _ _ HGB.out).trans rfl
                have hz5 : wm.cell? ⟨g12, 5, none⟩ = some (.int .u32 (n3 : Int)) := (cell_of_row wm _ _ _ _ _ HGB.out).trans rfl
                have hz6 : wm.cell? ⟨g12, 6, none⟩ = some (.slice A K C) := (cell_of_row wm _ _ _ _ _ HGB.out).trans rfl
                have hz7 : wm.cell? ⟨g12, 7, none⟩ = some (.int .u32 (tn : Int)) := (cell_of_row wm _ _ _ _ _ HGB.out).trans rfl
                have hz8 : wm.cell? ⟨g12, 8, none⟩ = some (.int .u32 (en : Int)) := (cell_of_row wm _ _ _ _ _ HGB.out).trans rfl
                have hz9 : wm.cell? ⟨g12, 9, none⟩ = some (.int .u32 (gn : Int)) := (cell_of_row wm _ _ _ _ _ HGB.out).trans rfl
                have hz10 : wm.cell? ⟨g12, 10, none⟩ = some (.int .u8 (an : Int)) := (cell_of_row wm _ _ _ _ _ HGB.out).trans rfl
                go_wp2_with fail
                clear hz0 hz1 hz2 hz3 hz4 hz5 hz6 hz7 hz8 hz9 hz10
                obtain ⟨c, hc⟩ : ∃ c : Int, c = o.elim 6 fun s => (s.arm i).2 := ⟨_, rfl⟩
                obtain ⟨o1, ho1⟩ : ∃ x, x = o.map fun s => (s.arm i).1 := ⟨_, rfl⟩
                have HP := hid (show ∀ W, Slb2 W wa.heap.size w1.heap.size (4 * k) pv pv o o → Below wm.heap.size wm W → Calls Try.prog 27 #[pv, .int .i64 i] W (fun e w' => e = .returned (.int .i64 c) ∧ Slb2 w' wa.heap.size w1.heap.size (4 * k + 2) pv pv o1 o ∧ KT allTs6 wa.heap.size W w') from fun W h hW => by
                  subst hc ho1
                  exact p_arm h i HI.out.2)
                have HR := hid (show ∀ W, Slb2 W wa.heap.size w1.heap.size (4 * k + 2) pv pv o1 o → KT allTs6 wa.heap.size wm W → Calls Try.prog 28 #[pv, .int .i64 i] W (fun e w' => e = .returned (.int .i64 c) ∧ Slb2 w' wa.heap.size w1.heap.size (4 * k + 2 + 2) pv pv o1 o1 ∧ KT allTs6 wa.heap.size W w') from fun W h hW => by
                  subst hc ho1
                  exact r_arm h i HI.out.2)
                clear hc ho1
                have hs0 : wm.drew.cell? ⟨g12, 1, none⟩ = some (.int .i64 i) := (cell_of_row _ _ _ _ _ _ (show wm.drew.heap[g12]? = _ from HGB.out)).trans rfl
                have HMd := hid (show Slb2 wm.drew wa.heap.size w1.heap.size (4 * k) pv pv o o from HM.out.below (below_drw (Below.refl _ _)))
                go_region_held3 (fun w' => w'.cell? ⟨g12, 1, none⟩ = some (.int .i64 i))
                  (first | assumption | exact hs0 | fail)
                  (first
                    | (go_at_call 27; refine (HP.out _ HMd.out (below_drw (Below.refl _ _))).mono ?_; rintro e w5 ⟨rfl, h5, k5⟩; have H5 := hid h5; have K5 := hid ((KT.refl allTs6 wa.heap.size wm).drew.trans k5); have hg5 := K5.out.block HGB.out (by decide); have hs5 : w5.cell? ⟨g12, 1, none⟩ = some (.int .i64 i) := (cell_of_row _ _ _ _ _ _ hg5).trans rfl; clear h5 k5 hg5)
                    | (go_at_call 28; refine (HR.out _ H5.out K5.out).mono ?_; rintro e w6 ⟨rfl, h6, k6⟩; have H6 := hid h6; have K6 := hid (K5.out.trans k6); have hg6 := K6.out.block HGB.out (by decide); have hs6 : w6.cell? ⟨g12, 1, none⟩ = some (.int .i64 i) := (cell_of_row _ _ _ _ _ _ hg6).trans rfl; clear h6 k6 hg6)
                    | fail)
                go_wp2_with fail
                go_meet
                case rel => exact ⟨by simp, o1, H6.out, K6.out⟩
            · as_aux_lemma =>
                have hy0 : ((d : Int) == 0) = false := by rw [beq_eq_false_iff_ne]; omega
                have hy1 : ((d : Int) == 1) = false := by rw [beq_eq_false_iff_ne]; omega
                have hy2 : ((d : Int) == 2) = false := by rw [beq_eq_false_iff_ne]; omega
                have hy3 : ((d : Int) == 3) = false := by rw [beq_eq_false_iff_ne]; omega
                have hy4 : ((d : Int) == 4) = false := by rw [beq_eq_false_iff_ne]; omega
                have hy5 : ((d : Int) == 5) = false := by rw [beq_eq_false_iff_ne]; omega
                have hy6 : ((d : Int) == 6) = false := by rw [beq_eq_false_iff_ne]; omega
                have hy7 : ((d : Int) == 7) = false := by rw [beq_eq_false_iff_ne]; omega
                have hy8 : ((d : Int) == 8) = false := by rw [beq_eq_false_iff_ne]; omega
                go_wp2_with fail
                go_meet
                case rel => exact ⟨rfl, o, HM.out.mono (by omega), KT.refl _ _ _⟩
          case rest =>
            as_aux_lemma =>
              obtain ⟨rfl, o1, hs1, hk1⟩ := hcut
              have HS1 := hid hs1
              have HK1 := hid hk1
              have hgc := HK1.out.block HGB.out (by decide)
              have hz6 : wc.cell? ⟨g12, 6, none⟩ = some (.slice A K C) := (cell_of_row wc _ _ _ _ _ hgc).trans rfl
              have HMC := hid (show Rd wc (.slice ad K cp) Bq.data from (show Own wc _ _ _ from owns_kt HOM.out HK1.out (by decide)).rd)
              have HRC := hid (show Rd wc (.slice A K C) Bq.data from HR0.out.below (HBA.out.trans ((HBm.out.trans HK1.out.below).mono hsa)))
              clear hs1 hk1 hgc
              go_wp2_with (first
                | (go_at_call 29; refine (same_eq _ _ Bq.data wc HMC.out HRC.out).mono ?_; rintro e w' ⟨rfl, rfl⟩)
                | fail)
              go_roundw
              case rel => exact ⟨k + 1, o1, hlt, by omega, by go_num, HS1.out.mono (by omega), HBm.out.trans HK1.out.below⟩
              case measure => simp [intOf]; omega
        · have h40i : decide ((k : Int) ≥ 40) = true := decide_eq_true (by omega)
          have h40n : (40 : Int) ≤ (k : Int) := by omega
          as_aux_lemma =>
            go_wp2_with fail
            go_ret
            exact ⟨rfl, HBw.out.alloc HBw.out.size _⟩
      · have hkl : ¬ (k : Int) < (len2 : Int) := by omega
        as_aux_lemma =>
          go_wp2_with fail
          go_ret
          exact ⟨rfl, HBw.out⟩
  | false =>
    have HS0 := hid (show Slb2 w2 wa.heap.size w1.heap.size (4 * 0) (.pointer (some ⟨b, 0, none⟩)) (.pointer (some ⟨rb, 0, none⟩)) (some (Sl.new nn)) (some (Sl.new nn)) from ⟨HB1.out.size, HB2.out.size, .inr ⟨_, _, b, bn, bd, _, rb, gd, cd, _, rfl, rfl, rfl, rfl, HH2.out, HR2.out, Sl.new_fits _, Sl.new_fits _, Nat.zero_le _, Nat.zero_le _, Nat.zero_le _, Nat.zero_le _⟩⟩)
    go_wp2_with fail
    obtain ⟨pv, hpv⟩ : ∃ v : Value, v = .pointer (some ⟨b, 0, none⟩) := ⟨_, rfl⟩
    obtain ⟨xv, hxv⟩ : ∃ v : Value, v = .pointer (some ⟨rb, 0, none⟩) := ⟨_, rfl⟩
    rw [← hpv, ← hxv] at HS0 ⊢
    clear hpv hxv H1 HR2 HH2 k1 k2 k3
    go_loopw [44] (fun vi wr => ∃ (k : Nat) (o : Option Sl), k ≤ len2 ∧ k ≤ 40 ∧ vi = .int .i64 k ∧ Slb2 wr wa.heap.size w1.heap.size (4 * k) pv xv o o ∧ Below wa.heap.size wa wr) (fun vi _ => len2 - (intOf vi).toNat)
    case atStart => exact ⟨0, _, by omega, by omega, rfl, HS0.out, HB0.out⟩
    case round =>
      obtain ⟨k, o, hk1, hk2, rfl, hs, hB⟩ := hrel
      have HS := hid hs
      have HB := hid hB
      have HBw := hid (HBA.out.trans (hB.mono hsa))
      clear hs hB
      by_cases hlt : k < len2
      · have hkl : (k : Int) < (len2 : Int) := by omega
        obtain ⟨ob, off, d, i, n0, n1, n2, n3, A, L, C, zs, tn, en, gn, an, rfl, hob, ⟨c0, c1, c2, c3, c4, c5, c6, c7, c8, c9, c10⟩, hd, hi, hn, hrow, hr4⟩ := HOP.out.at HBw.out hlt
        by_cases h40 : k < 40
        · have h40i : decide ((k : Int) ≥ 40) = false := decide_eq_false (by omega)
          have h40n : ¬ (40 : Int) ≤ (k : Int) := by omega
          obtain ⟨K, hK⟩ : ∃ K, K = min L 130 := ⟨_, rfl⟩
          obtain ⟨hbl1, hbl2, hbl3⟩ := hrow.bounds
          have hKL : K ≤ L := by omega
          have hKC : (K : Int) ≤ (C : Int) := by omega
          have hK130 : K ≤ 130 := by omega
          have HMIN := hid (show (if 130 < (L : Int) then (130 : Int) else (L : Int)) = (K : Int) by split <;> omega)
          obtain ⟨Bq, hBl, hBr, q0, q1, q2, q3⟩ := IsBlock6.blk hn hrow K hKL
          have HBL := hid hBl
          have HR0 := hid hBr
          have HBV := hid (show ∀ dv, Bq.val dv = .agg #[.int .u8 (n0 : Int), .int .u32 (n1 : Int), .int .u32 (n2 : Int), .int .u32 (n3 : Int), dv] from fun dv => by unfold Blk.val; rw [q0, q1, q2, q3])
          obtain ⟨rq, hrq⟩ : ∃ r : Rt, r = ⟨BitVec.ofNat 32 tn, BitVec.ofNat 32 en, BitVec.ofNat 32 gn, UInt8.ofNat an⟩ := ⟨_, rfl⟩
          have HRV := hid (show rq.val = .agg #[.int .u32 (tn : Int), .int .u32 (en : Int), .int .u32 (gn : Int), .int .u8 (an : Int)] by
            obtain ⟨r1, r2, r3, r4⟩ := hr4
            unfold Rt.val
            rw [hrq]
            simp only [BitVec.toNat_ofNat, UInt8.toNat_ofNat', Nat.mod_eq_of_lt (show tn < 2 ^ 32 by omega), Nat.mod_eq_of_lt (show en < 2 ^ 32 by omega), Nat.mod_eq_of_lt (show gn < 2 ^ 32 by omega), Nat.mod_eq_of_lt (show an < 2 ^ 8 by omega)])
          have HI := hid hi
          have HD := hid hd
          have HK40 := hid h40
          have HOLD := hid (show Bq.data ≠ [] → ∀ q, (Value.slice A K C).ownBlock = some q → q < wa.heap.size from fun hne q hq => Nat.lt_of_lt_of_le (rd_old HR0.out hne q hq) hsa)
          clear hrow hBl hBr q0 q1 q2 q3 hrq hr4 hn hi hd hK
          go_upto_region 11 with fail
          obtain ⟨wo, hwo⟩ : ∃ z, z = wr.alloc (.cells #[.int .u8 (d : Int), .int .i64 i, .int .u8 (n0 : Int), .int .u32 (n1 : Int), .int .u32 (n2 : Int), .int .u32 (n3 : Int), .slice A L C, .int .u32 (tn : Int), .int .u32 (en : Int), .int .u32 (gn : Int), .int .u8 (an : Int)] 38) := ⟨_, rfl⟩
          rw [← hwo]
          obtain ⟨g12, hg12⟩ : ∃ g, g = wr.heap.size := ⟨_, rfl⟩
          rw [← hg12]
          have hbo : Below wr.heap.size wr wo := by rw [hwo]; exact (Below.refl _ _).alloc (Nat.le_refl _) _
          have HGo := hid (show wo.heap[g12]? = some (.cells #[.int .u8 (d : Int), .int .i64 i, .int .u8 (n0 : Int), .int .u32 (n1 : Int), .int .u32 (n2 : Int), .int .u32 (n3 : Int), .slice A L C, .int .u32 (tn : Int), .int .u32 (en : Int), .int .u32 (gn : Int), .int .u8 (an : Int)] 38 (0, 0)) by rw [hwo, hg12]; exact heap_alloc_new _ _)
          have HG12 := hid (show wr.heap.size ≤ g12 by omega)
          have y6 : wo.cell? ⟨g12, 6, none⟩ = some (.slice A L C) := (cell_of_row wo _ _ _ _ _ HGo.out).trans rfl
          have y6f : wo.frozen? ⟨g12, 6, none⟩ = false := frozen_of_row _ _ _ _ _ HGo.out
          clear hwo hg12 c0 c1 c2 c3 c4 c5 c6 c7 c8 c9 c10
          go_upto_region 12 with fail
          simp only [HMIN.out, Int.toNat_natCast]
          obtain ⟨w2, hw2⟩ : ∃ z, z = wo.setCell ⟨g12, 6, none⟩ (.slice A K C) := ⟨_, rfl⟩
          rw [← hw2]
          have HG2 := hid (show w2.heap[g12]? = some (.cells #[.int .u8 (d : Int), .int .i64 i, .int .u8 (n0 : Int), .int .u32 (n1 : Int), .int .u32 (n2 : Int), .int .u32 (n3 : Int), .slice A K C, .int .u32 (tn : Int), .int .u32 (en : Int), .int .u32 (gn : Int), .int .u8 (an : Int)] 38 (0, 0)) by rw [hw2]; exact (setCell_heapS _ _ _ _ _ _ _ HGo.out).trans (by simp))
          have hb2 : Below wr.heap.size wr w2 := by rw [hw2]; exact hbo.setCell (p := ⟨g12, 6, none⟩) HG12.out _
          have HB2 := hid hb2
          have HE := hid (Own.empty w2 w2.heap.size (Nat.le_refl _))
          have HPe := hid ((HR0.out.below (HBw.out.trans (hb2.mono HBw.out.size))).alloc (.cells #[] 5))
          have y62 : w2.cell? ⟨g12, 6, none⟩ = some (.slice A K C) := (cell_of_row w2 _ _ _ _ _ HG2.out).trans rfl
          have y63 : (w2.alloc (.cells #[] 5)).cell? ⟨g12, 6, none⟩ = some (.slice A K C) := (((Below.refl w2.heap.size w2).alloc (Nat.le_refl _) (.cells #[] 5)).cell (p := ⟨g12, 6, none⟩) (World.block_lt_of_cell? _ _ y62)).trans y62
          clear hw2 hb2 hbo y6 y6f
          have y0 : w2.cell? ⟨g12, 0, none⟩ = some (.int .u8 (d : Int)) := (cell_of_row w2 _ _ _ _ _ HG2.out).trans rfl
          have y1f := hid (World.block_lt_of_cell? _ _ y0)
          clear y0
          go_upto_block 2 with (first
            | (at_builtin; (refine appk rfl (.tmp 62) (.tmp 65) rfl w2.heap.size (.slice (some ⟨w2.heap.size, 0, none⟩) 0 0) _ [] Bq.data Bq.data K rfl rfl HE.out HPe.out (by have := HBL.out; simp; omega) rfl (by have := HBL.out; simp; omega) (by simp) ?_); intro ad cp wm hom hgm; have HOM := hid hom; have HBM := hid (((Below.refl w2.heap.size w2).alloc (Nat.le_refl _) (.cells #[] 5)).grown hgm (by simp) (fun q hq => by have := (HE.out.lt q hq).1; omega)); have y0 : wm.cell? ⟨g12, 0, none⟩ = some (.int .u8 (d : Int)) := (cell_of_row wm _ _ _ _ _ ((HBM.out.block g12 (Array.getElem?_eq_some_iff.1 HG2.out).1).trans HG2.out)).trans rfl; clear hom hgm)
            | fail)
          clear y0
          have HMN := hid (show Rd wm (.slice ad K cp) Bq.data from HOM.out.rd)
          have HGB := hid ((HBM.out.block g12 (Array.getElem?_eq_some_iff.1 HG2.out).1).trans HG2.out)
          have hbm := HB2.out.trans (HBM.out.mono HB2.out.size)
          have HM := hid (HS.out.below hbm)
          have HBm := hid (HB.out.trans (hbm.mono HB.out.size))
          have HRD := hid (HR0.out.below (HBA.out.trans (HBm.out.mono hsa)))
          have HRDK := hid (show ∀ W, KT allTs6 wa.heap.size wm W → Rd W (.slice A K C) Bq.data from fun W hW => HR0.out.below (HBA.out.trans ((HBm.out.trans hW.below).mono hsa)))
          have HTY := hid (show ∀ W, Below wm.heap.size wm W → ∀ q, (Value.slice ad K cp).ownBlock = some q → ∃ cs, W.heap[q]? = some (.cells cs 5 (0, 0)) from fun W hW q hq => by
            obtain ⟨cur, hc⟩ := owns_ty HOM.out q hq
            exact ⟨cur, (hW.block q (World.ownsRow.lt HOM.out q hq).2).trans hc⟩)
          clear hbm y62 y63
          go_cut [14, 15, 16, 17, 18, 19, 20, 21, 22] from 69 to 199 (fun v14 v15 v16 v17 v18 v19 v20 v21 v22 wx => v14 = .bool true ∧ ∃ o1, Slb2 wx wa.heap.size w1.heap.size (4 * k + 2 + 2) pv xv o1 o1 ∧ KT allTs6 wa.heap.size wm wx)
          case first =>
            have hparts : d = 0 ∨ d = 1 ∨ d = 2 ∨ d = 3 ∨ d = 4 ∨ d = 5 ∨ d = 6 ∨ d = 7 ∨ d = 8 ∨ 8 < d := by omega
            rcases hparts with hdq | hdq | hdq | hdq | hdq | hdq | hdq | hdq | hdq | hdq
            · as_aux_lemma =>
                subst hdq
                have hz0 : wm.cell? ⟨g12, 0, none⟩ = some (.int .u8 0) := (cell_of_row wm _ _ _ _ _ HGB.out).trans rfl
                have hz1 : wm.cell? ⟨g12, 1, none⟩ = some (.int .i64 i) := (cell_of_row wm _ _ _ _ _ HGB.out).trans rfl
                have hz2 : wm.cell? ⟨g12, 2, none⟩ = some (.int .u8 (n0 : Int)) := (cell_of_row wm _ _ _ _ _ HGB.out).trans rfl
                have hz3 : wm.cell? ⟨g12, 3, none⟩ = some (.int .u32 (n1 : Int)) := (cell_of_row wm _ _ _ _ _ HGB.out).trans rfl
                have hz4 : wm.cell? ⟨g12, 4, none⟩ = some (.int .u32 (n2 : Int)) := (cell_of_row wm _ _ _ _ _ HGB.out).trans rfl
                have hz5 : wm.cell? ⟨g12, 5, none⟩ = some (.int .u32 (n3 : Int)) := (cell_of_row wm _ _ _ _ _ HGB.out).trans rfl
                have hz6 : wm.cell? ⟨g12, 6, none⟩ = some (.slice A K C) := (cell_of_row wm _ _ _ _ _ HGB.out).trans rfl
                have hz7 : wm.cell? ⟨g12, 7, none⟩ = some (.int .u32 (tn : Int)) := (cell_of_row wm _ _ _ _ _ HGB.out).trans rfl
                have hz8 : wm.cell? ⟨g12, 8, none⟩ = some (.int .u32 (en : Int)) := (cell_of_row wm _ _ _ _ _ HGB.out).trans rfl
                have hz9 : wm.cell? ⟨g12, 9, none⟩ = some (.int .u32 (gn : Int)) := (cell_of_row wm _ _ _ _ _ HGB.out).trans rfl
                have hz10 : wm.cell? ⟨g12, 10, none⟩ = some (.int .u8 (an : Int)) := (cell_of_row wm _ _ _ _ _ HGB.out).trans rfl
                go_wp2_with fail
                clear hz0 hz1 hz2 hz3 hz4 hz5 hz6 hz7 hz8 hz9 hz10
                obtain ⟨c, hc⟩ : ∃ c : Int, c = o.elim 6 fun s => (s.putb i Bq).2 := ⟨_, rfl⟩
                obtain ⟨o1, ho1⟩ : ∃ x, x = o.map fun s => (s.putb i Bq).1 := ⟨_, rfl⟩
                have HP := hid (show ∀ W, Slb2 W wa.heap.size w1.heap.size (4 * k) pv xv o o → Below wm.heap.size wm W → Calls Try.prog 12 #[pv, .int .i64 i, .agg #[.int .u8 (n0 : Int), .int .u32 (n1 : Int), .int .u32 (n2 : Int), .int .u32 (n3 : Int), .slice ad K cp]] W (fun e w' => e = .returned (.int .i64 c) ∧ Slb2 w' wa.heap.size w1.heap.size (4 * k + 2) pv xv o1 o ∧ KT allTs6 wa.heap.size W w') from fun W h hW => by
                  subst hc ho1
                  have hh := p_put h (by have := HK40.out; omega) i Bq ad K cp (HMN.out.below hW)
                  rw [HBV.out] at hh
                  exact hh)
                have HR := hid (show ∀ W, Slb2 W wa.heap.size w1.heap.size (4 * k + 2) pv xv o1 o → KT allTs6 wa.heap.size wm W → Calls Try.prog 13 #[xv, .int .i64 i, .agg #[.int .u8 (n0 : Int), .int .u32 (n1 : Int), .int .u32 (n2 : Int), .int .u32 (n3 : Int), .slice A K C]] W (fun e w' => e = .returned (.int .i64 c) ∧ Slb2 w' wa.heap.size w1.heap.size (4 * k + 2 + 2) pv xv o1 o1 ∧ KT allTs6 wa.heap.size W w') from fun W h hW => by
                  subst hc ho1
                  have hh := r_put h (by have := HK40.out; omega) i Bq A K C (HRDK.out W hW) HBL.out
                  rw [HBV.out] at hh
                  exact hh)
                clear hc ho1
                have hs0 : wm.drew.cell? ⟨g12, 1, none⟩ = some (.int .i64 i) ∧ wm.drew.cell? ⟨g12, 2, none⟩ = some (.int .u8 (n0 : Int)) ∧ wm.drew.cell? ⟨g12, 3, none⟩ = some (.int .u32 (n1 : Int)) ∧ wm.drew.cell? ⟨g12, 4, none⟩ = some (.int .u32 (n2 : Int)) ∧ wm.drew.cell? ⟨g12, 5, none⟩ = some (.int .u32 (n3 : Int)) ∧ wm.drew.cell? ⟨g12, 6, none⟩ = some (.slice A K C) := ⟨(cell_of_row _ _ _ _ _ _ (show wm.drew.heap[g12]? = _ from HGB.out)).trans rfl, (cell_of_row _ _ _ _ _ _ (show wm.drew.heap[g12]? = _ from HGB.out)).trans rfl, (cell_of_row _ _ _ _ _ _ (show wm.drew.heap[g12]? = _ from HGB.out)).trans rfl, (cell_of_row _ _ _ _ _ _ (show wm.drew.heap[g12]? = _ from HGB.out)).trans rfl, (cell_of_row _ _ _ _ _ _ (show wm.drew.heap[g12]? = _ from HGB.out)).trans rfl, (cell_of_row _ _ _ _ _ _ (show wm.drew.heap[g12]? = _ from HGB.out)).trans rfl⟩
                have HMd := hid (show Slb2 wm.drew wa.heap.size w1.heap.size (4 * k) pv xv o o from HM.out.below (below_drw (Below.refl _ _)))
                go_region_held3 (fun w' => w'.cell? ⟨g12, 1, none⟩ = some (.int .i64 i) ∧ w'.cell? ⟨g12, 2, none⟩ = some (.int .u8 (n0 : Int)) ∧ w'.cell? ⟨g12, 3, none⟩ = some (.int .u32 (n1 : Int)) ∧ w'.cell? ⟨g12, 4, none⟩ = some (.int .u32 (n2 : Int)) ∧ w'.cell? ⟨g12, 5, none⟩ = some (.int .u32 (n3 : Int)) ∧ w'.cell? ⟨g12, 6, none⟩ = some (.slice A K C))
                  (first | assumption | exact hs0 | fail)
                  (first
                    | (go_at_call 12; refine (HP.out _ HMd.out (below_drw (Below.refl _ _))).mono ?_; rintro e w5 ⟨rfl, h5, k5⟩; have H5 := hid h5; have K5 := hid ((KT.refl allTs6 wa.heap.size wm).drew.trans k5); have hg5 := K5.out.block HGB.out (by decide); have hs5 : w5.cell? ⟨g12, 1, none⟩ = some (.int .i64 i) ∧ w5.cell? ⟨g12, 2, none⟩ = some (.int .u8 (n0 : Int)) ∧ w5.cell? ⟨g12, 3, none⟩ = some (.int .u32 (n1 : Int)) ∧ w5.cell? ⟨g12, 4, none⟩ = some (.int .u32 (n2 : Int)) ∧ w5.cell? ⟨g12, 5, none⟩ = some (.int .u32 (n3 : Int)) ∧ w5.cell? ⟨g12, 6, none⟩ = some (.slice A K C) := ⟨(cell_of_row _ _ _ _ _ _ hg5).trans rfl, (cell_of_row _ _ _ _ _ _ hg5).trans rfl, (cell_of_row _ _ _ _ _ _ hg5).trans rfl, (cell_of_row _ _ _ _ _ _ hg5).trans rfl, (cell_of_row _ _ _ _ _ _ hg5).trans rfl, (cell_of_row _ _ _ _ _ _ hg5).trans rfl⟩; clear h5 k5 hg5)
                    | (go_at_call 13; refine (HR.out _ H5.out K5.out).mono ?_; rintro e w6 ⟨rfl, h6, k6⟩; have H6 := hid h6; have K6 := hid (K5.out.trans k6); have hg6 := K6.out.block HGB.out (by decide); have hs6 : w6.cell? ⟨g12, 1, none⟩ = some (.int .i64 i) ∧ w6.cell? ⟨g12, 2, none⟩ = some (.int .u8 (n0 : Int)) ∧ w6.cell? ⟨g12, 3, none⟩ = some (.int .u32 (n1 : Int)) ∧ w6.cell? ⟨g12, 4, none⟩ = some (.int .u32 (n2 : Int)) ∧ w6.cell? ⟨g12, 5, none⟩ = some (.int .u32 (n3 : Int)) ∧ w6.cell? ⟨g12, 6, none⟩ = some (.slice A K C) := ⟨(cell_of_row _ _ _ _ _ _ hg6).trans rfl, (cell_of_row _ _ _ _ _ _ hg6).trans rfl, (cell_of_row _ _ _ _ _ _ hg6).trans rfl, (cell_of_row _ _ _ _ _ _ hg6).trans rfl, (cell_of_row _ _ _ _ _ _ hg6).trans rfl, (cell_of_row _ _ _ _ _ _ hg6).trans rfl⟩; clear h6 k6 hg6)
                    | fail)
                go_wp2_with fail
                go_meet
                case rel => exact ⟨by simp, o1, H6.out, K6.out⟩
            · as_aux_lemma =>
                subst hdq
                have hz0 : wm.cell? ⟨g12, 0, none⟩ = some (.int .u8 1) := (cell_of_row wm _ _ _ _ _ HGB.out).trans rfl
                have hz1 : wm.cell? ⟨g12, 1, none⟩ = some (.int .i64 i) := (cell_of_row wm _ _ _ _ _ HGB.out).trans rfl
                have hz2 : wm.cell? ⟨g12, 2, none⟩ = some (.int .u8 (n0 : Int)) := (cell_of_row wm _ _ _ _ _ HGB.out).trans rfl
                have hz3 : wm.cell? ⟨g12, 3, none⟩ = some (.int .u32 (n1 : Int)) := (cell_of_row wm _ _ _ _ _ HGB.out).trans rfl
                have hz4 : wm.cell? ⟨g12, 4, none⟩ = some (.int .u32 (n2 : Int)) := (cell_of_row wm _ _ _ _ _ HGB.out).trans rfl
                have hz5 : wm.cell? ⟨g12, 5, none⟩ = some (.int .u32 (n3 : Int)) := (cell_of_row wm _ _ _ _ _ HGB.out).trans rfl
                have hz6 : wm.cell? ⟨g12, 6, none⟩ = some (.slice A K C) := (cell_of_row wm _ _ _ _ _ HGB.out).trans rfl
                have hz7 : wm.cell? ⟨g12, 7, none⟩ = some (.int .u32 (tn : Int)) := (cell_of_row wm _ _ _ _ _ HGB.out).trans rfl
                have hz8 : wm.cell? ⟨g12, 8, none⟩ = some (.int .u32 (en : Int)) := (cell_of_row wm _ _ _ _ _ HGB.out).trans rfl
                have hz9 : wm.cell? ⟨g12, 9, none⟩ = some (.int .u32 (gn : Int)) := (cell_of_row wm _ _ _ _ _ HGB.out).trans rfl
                have hz10 : wm.cell? ⟨g12, 10, none⟩ = some (.int .u8 (an : Int)) := (cell_of_row wm _ _ _ _ _ HGB.out).trans rfl
                go_wp2_with fail
                clear hz0 hz1 hz2 hz3 hz4 hz5 hz6 hz7 hz8 hz9 hz10
                obtain ⟨c, hc⟩ : ∃ c : Int, c = o.elim 6 fun s => (s.putb i Bq).2 := ⟨_, rfl⟩
                obtain ⟨o1, ho1⟩ : ∃ x, x = o.map fun s => (s.putb i Bq).1 := ⟨_, rfl⟩
                have HP := hid (show ∀ W, Slb2 W wa.heap.size w1.heap.size (4 * k) pv xv o o → Below wm.heap.size wm W → Calls Try.prog 12 #[pv, .int .i64 i, .agg #[.int .u8 (n0 : Int), .int .u32 (n1 : Int), .int .u32 (n2 : Int), .int .u32 (n3 : Int), .slice ad K cp]] W (fun e w' => e = .returned (.int .i64 c) ∧ Slb2 w' wa.heap.size w1.heap.size (4 * k + 2) pv xv o1 o ∧ KT allTs6 wa.heap.size W w') from fun W h hW => by
                  subst hc ho1
                  have hh := p_put h (by have := HK40.out; omega) i Bq ad K cp (HMN.out.below hW)
                  rw [HBV.out] at hh
                  exact hh)
                have HR := hid (show ∀ W, Slb2 W wa.heap.size w1.heap.size (4 * k + 2) pv xv o1 o → KT allTs6 wa.heap.size wm W → Calls Try.prog 13 #[xv, .int .i64 i, .agg #[.int .u8 (n0 : Int), .int .u32 (n1 : Int), .int .u32 (n2 : Int), .int .u32 (n3 : Int), .slice A K C]] W (fun e w' => e = .returned (.int .i64 c) ∧ Slb2 w' wa.heap.size w1.heap.size (4 * k + 2 + 2) pv xv o1 o1 ∧ KT allTs6 wa.heap.size W w') from fun W h hW => by
                  subst hc ho1
                  have hh := r_put h (by have := HK40.out; omega) i Bq A K C (HRDK.out W hW) HBL.out
                  rw [HBV.out] at hh
                  exact hh)
                clear hc ho1
                have hs0 : wm.drew.cell? ⟨g12, 1, none⟩ = some (.int .i64 i) ∧ wm.drew.cell? ⟨g12, 2, none⟩ = some (.int .u8 (n0 : Int)) ∧ wm.drew.cell? ⟨g12, 3, none⟩ = some (.int .u32 (n1 : Int)) ∧ wm.drew.cell? ⟨g12, 4, none⟩ = some (.int .u32 (n2 : Int)) ∧ wm.drew.cell? ⟨g12, 5, none⟩ = some (.int .u32 (n3 : Int)) ∧ wm.drew.cell? ⟨g12, 6, none⟩ = some (.slice A K C) := ⟨(cell_of_row _ _ _ _ _ _ (show wm.drew.heap[g12]? = _ from HGB.out)).trans rfl, (cell_of_row _ _ _ _ _ _ (show wm.drew.heap[g12]? = _ from HGB.out)).trans rfl, (cell_of_row _ _ _ _ _ _ (show wm.drew.heap[g12]? = _ from HGB.out)).trans rfl, (cell_of_row _ _ _ _ _ _ (show wm.drew.heap[g12]? = _ from HGB.out)).trans rfl, (cell_of_row _ _ _ _ _ _ (show wm.drew.heap[g12]? = _ from HGB.out)).trans rfl, (cell_of_row _ _ _ _ _ _ (show wm.drew.heap[g12]? = _ from HGB.out)).trans rfl⟩
                have HMd := hid (show Slb2 wm.drew wa.heap.size w1.heap.size (4 * k) pv xv o o from HM.out.below (below_drw (Below.refl _ _)))
                go_region_held3 (fun w' => w'.cell? ⟨g12, 1, none⟩ = some (.int .i64 i) ∧ w'.cell? ⟨g12, 2, none⟩ = some (.int .u8 (n0 : Int)) ∧ w'.cell? ⟨g12, 3, none⟩ = some (.int .u32 (n1 : Int)) ∧ w'.cell? ⟨g12, 4, none⟩ = some (.int .u32 (n2 : Int)) ∧ w'.cell? ⟨g12, 5, none⟩ = some (.int .u32 (n3 : Int)) ∧ w'.cell? ⟨g12, 6, none⟩ = some (.slice A K C))
                  (first | assumption | exact hs0 | fail)
                  (first
                    | (go_at_call 12; refine (HP.out _ HMd.out (below_drw (Below.refl _ _))).mono ?_; rintro e w5 ⟨rfl, h5, k5⟩; have H5 := hid h5; have K5 := hid ((KT.refl allTs6 wa.heap.size wm).drew.trans k5); have hg5 := K5.out.block HGB.out (by decide); have hs5 : w5.cell? ⟨g12, 1, none⟩ = some (.int .i64 i) ∧ w5.cell? ⟨g12, 2, none⟩ = some (.int .u8 (n0 : Int)) ∧ w5.cell? ⟨g12, 3, none⟩ = some (.int .u32 (n1 : Int)) ∧ w5.cell? ⟨g12, 4, none⟩ = some (.int .u32 (n2 : Int)) ∧ w5.cell? ⟨g12, 5, none⟩ = some (.int .u32 (n3 : Int)) ∧ w5.cell? ⟨g12, 6, none⟩ = some (.slice A K C) := ⟨(cell_of_row _ _ _ _ _ _ hg5).trans rfl, (cell_of_row _ _ _ _ _ _ hg5).trans rfl, (cell_of_row _ _ _ _ _ _ hg5).trans rfl, (cell_of_row _ _ _ _ _ _ hg5).trans rfl, (cell_of_row _ _ _ _ _ _ hg5).trans rfl, (cell_of_row _ _ _ _ _ _ hg5).trans rfl⟩; clear h5 k5 hg5)
                    | (go_at_call 13; refine (HR.out _ H5.out K5.out).mono ?_; rintro e w6 ⟨rfl, h6, k6⟩; have H6 := hid h6; have K6 := hid (K5.out.trans k6); have hg6 := K6.out.block HGB.out (by decide); have hs6 : w6.cell? ⟨g12, 1, none⟩ = some (.int .i64 i) ∧ w6.cell? ⟨g12, 2, none⟩ = some (.int .u8 (n0 : Int)) ∧ w6.cell? ⟨g12, 3, none⟩ = some (.int .u32 (n1 : Int)) ∧ w6.cell? ⟨g12, 4, none⟩ = some (.int .u32 (n2 : Int)) ∧ w6.cell? ⟨g12, 5, none⟩ = some (.int .u32 (n3 : Int)) ∧ w6.cell? ⟨g12, 6, none⟩ = some (.slice A K C) := ⟨(cell_of_row _ _ _ _ _ _ hg6).trans rfl, (cell_of_row _ _ _ _ _ _ hg6).trans rfl, (cell_of_row _ _ _ _ _ _ hg6).trans rfl, (cell_of_row _ _ _ _ _ _ hg6).trans rfl, (cell_of_row _ _ _ _ _ _ hg6).trans rfl, (cell_of_row _ _ _ _ _ _ hg6).trans rfl⟩; clear h6 k6 hg6)
                    | fail)
                go_wp2_with fail
                go_meet
                case rel => exact ⟨by simp, o1, H6.out, K6.out⟩
            · as_aux_lemma =>
                subst hdq
                have hz0 : wm.cell? ⟨g12, 0, none⟩ = some (.int .u8 2) := (cell_of_row wm _ _ _ _ _ HGB.out).trans rfl
                have hz1 : wm.cell? ⟨g12, 1, none⟩ = some (.int .i64 i) := (cell_of_row wm _ _ _ _ _ HGB.out).trans rfl
                have hz2 : wm.cell? ⟨g12, 2, none⟩ = some (.int .u8 (n0 : Int)) := (cell_of_row wm _ _ _ _ _ HGB.out).trans rfl
                have hz3 : wm.cell? ⟨g12, 3, none⟩ = some (.int .u32 (n1 : Int)) := (cell_of_row wm _ _ _ _ _ HGB.out).trans rfl
                have hz4 : wm.cell? ⟨g12, 4, none⟩ = some (.int .u32 (n2 : Int)) := (cell_of_row wm _ _ _ _ _ HGB.out).trans rfl
                have hz5 : wm.cell? ⟨g12, 5, none⟩ = some (.int .u32 (n3 : Int)) := (cell_of_row wm _ _ _ _ _ HGB.out).trans rfl
                have hz6 : wm.cell? ⟨g12, 6, none⟩ = some (.slice A K C) := (cell_of_row wm _ _ _ _ _ HGB.out).trans rfl
                have hz7 : wm.cell? ⟨g12, 7, none⟩ = some (.int .u32 (tn : Int)) := (cell_of_row wm _ _ _ _ _ HGB.out).trans rfl
                have hz8 : wm.cell? ⟨g12, 8, none⟩ = some (.int .u32 (en : Int)) := (cell_of_row wm _ _ _ _ _ HGB.out).trans rfl
                have hz9 : wm.cell? ⟨g12, 9, none⟩ = some (.int .u32 (gn : Int)) := (cell_of_row wm _ _ _ _ _ HGB.out).trans rfl
                have hz10 : wm.cell? ⟨g12, 10, none⟩ = some (.int .u8 (an : Int)) := (cell_of_row wm _ _ _ _ _ HGB.out).trans rfl
                obtain ⟨ec, hec⟩ : ∃ e, e = (ogetb o i).1 := ⟨_, rfl⟩
                obtain ⟨G, hG⟩ : ∃ g, g = (ogetb o i).2 := ⟨_, rfl⟩
                obtain ⟨kn, hkn⟩ : ∃ k, k = G.kind.toNat := ⟨_, rfl⟩
                obtain ⟨en2, hen⟩ : ∃ k, k = G.epoch.toNat := ⟨_, rfl⟩
                obtain ⟨xn, hxn⟩ : ∃ k, k = G.a.toNat := ⟨_, rfl⟩
                obtain ⟨yn, hyn⟩ : ∃ k, k = G.b.toNat := ⟨_, rfl⟩
                obtain ⟨n, hn⟩ : ∃ n, n = G.data.length := ⟨_, rfl⟩
                have HGV := hid (fun dv => show G.val dv = .agg #[.int .u8 (kn : Int), .int .u32 (en2 : Int), .int .u32 (xn : Int), .int .u32 (yn : Int), dv] from by unfold Blk.val; rw [hkn, hen, hxn, hyn])
                have HNL := hid hn
                have HP := hid (show Calls Try.prog 14 #[pv, .int .i64 i] wm (fun e w' => ∃ ua uc, e = .returned (.tuple #[.agg #[.int .u8 (kn : Int), .int .u32 (en2 : Int), .int .u32 (xn : Int), .int .u32 (yn : Int), .slice ua n uc], .int .i64 ec]) ∧ Rd w' (.slice ua n uc) G.data ∧ Below wm.heap.size wm w') from by
                  have h := p_get HM.out i
                  rw [← hec, ← hG] at h
                  refine h.mono ?_
                  rintro e w' ⟨dv, rfl, ho, hb⟩
                  obtain ⟨ua, uc, rfl⟩ := rd_slice ho.rd
                  rw [HGV.out, HNL.out]
                  exact ⟨ua, uc, rfl, ho.rd, hb⟩)
                have HR := hid (fun W (hW : Below wm.heap.size wm W) => show Calls Try.prog 15 #[xv, .int .i64 i] W (fun e w' => ∃ ua uc, e = .returned (.tuple #[.agg #[.int .u8 (kn : Int), .int .u32 (en2 : Int), .int .u32 (xn : Int), .int .u32 (yn : Int), .slice ua n uc], .int .i64 ec]) ∧ Rd w' (.slice ua n uc) G.data ∧ Below W.heap.size W w') from by
                  have h := r_get (HM.out.below hW) i
                  rw [← hec, ← hG] at h
                  refine h.mono ?_
                  rintro e w' ⟨dv, rfl, ho, hb⟩
                  obtain ⟨ua, uc, rfl⟩ := rd_slice ho.rd
                  rw [HGV.out, HNL.out]
                  exact ⟨ua, uc, rfl, ho.rd, hb⟩)
                have HSM := hid (fun W ua uc va vc (hu : Rd W (.slice ua n uc) G.data) (hv : Rd W (.slice va n vc) G.data) => show Calls Try.prog 16 #[.agg #[.int .u8 (kn : Int), .int .u32 (en2 : Int), .int .u32 (xn : Int), .int .u32 (yn : Int), .slice ua n uc], .agg #[.int .u8 (kn : Int), .int .u32 (en2 : Int), .int .u32 (xn : Int), .int .u32 (yn : Int), .slice va n vc]] W (fun e w' => e = .returned (.bool true) ∧ Below W.heap.size W w') from by
                  have h := same6_eq G ua va n uc vc W hu hv
                  rw [HGV.out, HGV.out] at h
                  exact h)
                clear hec hG hkn hen hxn hyn hn
                go_upto_region 20 with (first
                  | (go_at_call 14; refine (HP.out).mono ?_; rintro e w3 ⟨ua, uc, rfl, hr3, hb3⟩)
                  | fail)
                obtain ⟨w4, hw4⟩ : ∃ z, z = w3.alloc (.cells #[.int .u8 (kn : Int), .int .u32 (en2 : Int), .int .u32 (xn : Int), .int .u32 (yn : Int), .slice ua n uc] 40) := ⟨_, rfl⟩
                rw [← hw4]
                obtain ⟨g15, hg15⟩ : ∃ g, g = w3.heap.size := ⟨_, rfl⟩
                rw [← hg15]
                have hb4 : Below w3.heap.size w3 w4 := by rw [hw4]; exact (Below.refl _ _).alloc (Nat.le_refl _) _
                have HG4 := hid (show w4.heap[g15]? = some (.cells #[.int .u8 (kn : Int), .int .u32 (en2 : Int), .int .u32 (xn : Int), .int .u32 (yn : Int), .slice ua n uc] 40 (0, 0)) by rw [hw4, hg15]; exact heap_alloc_new _ _)
                have HB4 := hid (hb3.trans (hb4.mono hb3.size))
                have HR4 := hid (hr3.below hb4)
                have hg4b := (HB4.out.block g12 (Array.getElem?_eq_some_iff.1 HGB.out).1).trans HGB.out
                clear hw4 hg15 hb4 hr3 hb3 hz0 hz1 hz2 hz3 hz4 hz5 hz6 hz7 hz8 hz9 hz10
                have hz1 : w4.cell? ⟨g12, 1, none⟩ = some (.int .i64 i) := (cell_of_row w4 _ _ _ _ _ hg4b).trans rfl
                clear hg4b
                go_upto_region 21 with (first
                  | (go_at_call 15; refine (HR.out w4 HB4.out).mono ?_; rintro e w5 ⟨va, vc, rfl, hr5, hb5⟩)
                  | fail)
                obtain ⟨w6, hw6⟩ : ∃ z, z = w5.alloc (.cells #[.int .u8 (kn : Int), .int .u32 (en2 : Int), .int .u32 (xn : Int), .int .u32 (yn : Int), .slice va n vc] 34) := ⟨_, rfl⟩
                rw [← hw6]
                have hb6 : Below w5.heap.size w5 w6 := by rw [hw6]; exact (Below.refl _ _).alloc (Nat.le_refl _) _
                have hg6 : w6.heap[w5.heap.size]? = some (.cells #[.int .u8 (kn : Int), .int .u32 (en2 : Int), .int .u32 (xn : Int), .int .u32 (yn : Int), .slice va n vc] 34 (0, 0)) := by rw [hw6]; exact heap_alloc_new _ _
                have hb46 := hb5.trans (hb6.mono hb5.size)
                have HB6 := hid (HB4.out.trans (hb46.mono HB4.out.size))
                have HU := hid (HR4.out.below hb46)
                have HV := hid (hr5.below hb6)
                have hgu := (hb46.block g15 (Array.getElem?_eq_some_iff.1 HG4.out).1).trans HG4.out
                obtain ⟨⟨m0, m1, m2, m3, m4⟩, -, -, -, -, -⟩ := zero5 hgu
                obtain ⟨⟨p0, p1, p2, p3, p4⟩, -, -, -, -, -⟩ := zero5 hg6
                clear hw6 hb6 hg6 hgu hb46 hr5 hb5 hz1
                go_wp2_with (first
                  | (go_at_call 16; refine (HSM.out w6 ua uc va vc HU.out HV.out).mono ?_; rintro e w7 ⟨rfl, hb7⟩)
                  | fail)
                go_meet
                case rel => exact ⟨by simp, o, (HM.out.below (HB6.out.trans (hb7.mono HB6.out.size))).mono (by omega), KT.of_below (HB6.out.trans (hb7.mono HB6.out.size)) HBm.out.size⟩
            · as_aux_lemma =>
                subst hdq
                have hz0 : wm.cell? ⟨g12, 0, none⟩ = some (.int .u8 3) := (cell_of_row wm _ _ _ _ _ HGB.out).trans rfl
                have hz1 : wm.cell? ⟨g12, 1, none⟩ = some (.int .i64 i) := (cell_of_row wm _ _ _ _ _ HGB.out).trans rfl
                have hz2 : wm.cell? ⟨g12, 2, none⟩ = some (.int .u8 (n0 : Int)) := (cell_of_row wm _ _ _ _ _ HGB.out).trans rfl
                have hz3 : wm.cell? ⟨g12, 3, none⟩ = some (.int .u32 (n1 : Int)) := (cell_of_row wm _ _ _ _ _ HGB.out).trans rfl
                have hz4 : wm.cell? ⟨g12, 4, none⟩ = some (.int .u32 (n2 : Int)) := (cell_of_row wm _ _ _ _ _ HGB.out).trans rfl
                have hz5 : wm.cell? ⟨g12, 5, none⟩ = some (.int .u32 (n3 : Int)) := (cell_of_row wm _ _ _ _ _ HGB.out).trans rfl
                have hz6 : wm.cell? ⟨g12, 6, none⟩ = some (.slice A K C) := (cell_of_row wm _ _ _ _ _ HGB.out).trans rfl
                have hz7 : wm.cell? ⟨g12, 7, none⟩ = some (.int .u32 (tn : Int)) := (cell_of_row wm _ _ _ _ _ HGB.out).trans rfl
                have hz8 : wm.cell? ⟨g12, 8, none⟩ = some (.int .u32 (en : Int)) := (cell_of_row wm _ _ _ _ _ HGB.out).trans rfl
                have hz9 : wm.cell? ⟨g12, 9, none⟩ = some (.int .u32 (gn : Int)) := (cell_of_row wm _ _ _ _ _ HGB.out).trans rfl
                have hz10 : wm.cell? ⟨g12, 10, none⟩ = some (.int .u8 (an : Int)) := (cell_of_row wm _ _ _ _ _ HGB.out).trans rfl
                go_wp2_with fail
                clear hz0 hz1 hz2 hz3 hz4 hz5 hz6 hz7 hz8 hz9 hz10
                obtain ⟨c, hc⟩ : ∃ c : Int, c = o.elim 6 fun s => (s.storeb rq).2 := ⟨_, rfl⟩
                obtain ⟨o1, ho1⟩ : ∃ x, x = o.map fun s => (s.storeb rq).1 := ⟨_, rfl⟩
                have HP := hid (show ∀ W, Slb2 W wa.heap.size w1.heap.size (4 * k) pv xv o o → Below wm.heap.size wm W → Calls Try.prog 17 #[pv, .agg #[.int .u32 (tn : Int), .int .u32 (en : Int), .int .u32 (gn : Int), .int .u8 (an : Int)]] W (fun e w' => e = .returned (.int .i64 c) ∧ Slb2 w' wa.heap.size w1.heap.size (4 * k + 2) pv xv o1 o ∧ KT allTs6 wa.heap.size W w') from fun W h hW => by
                  subst hc ho1
                  have hh := p_store h (by have := HK40.out; omega) rq
                  rw [HRV.out] at hh
                  exact hh)
                have HR := hid (show ∀ W, Slb2 W wa.heap.size w1.heap.size (4 * k + 2) pv xv o1 o → KT allTs6 wa.heap.size wm W → Calls Try.prog 18 #[xv, .agg #[.int .u32 (tn : Int), .int .u32 (en : Int), .int .u32 (gn : Int), .int .u8 (an : Int)]] W (fun e w' => e = .returned (.int .i64 c) ∧ Slb2 w' wa.heap.size w1.heap.size (4 * k + 2 + 2) pv xv o1 o1 ∧ KT allTs6 wa.heap.size W w') from fun W h hW => by
                  subst hc ho1
                  have hh := r_store h (by have := HK40.out; omega) rq
                  rw [HRV.out] at hh
                  exact hh)
                clear hc ho1
                have hs0 : wm.drew.cell? ⟨g12, 7, none⟩ = some (.int .u32 (tn : Int)) ∧ wm.drew.cell? ⟨g12, 8, none⟩ = some (.int .u32 (en : Int)) ∧ wm.drew.cell? ⟨g12, 9, none⟩ = some (.int .u32 (gn : Int)) ∧ wm.drew.cell? ⟨g12, 10, none⟩ = some (.int .u8 (an : Int)) := ⟨(cell_of_row _ _ _ _ _ _ (show wm.drew.heap[g12]? = _ from HGB.out)).trans rfl, (cell_of_row _ _ _ _ _ _ (show wm.drew.heap[g12]? = _ from HGB.out)).trans rfl, (cell_of_row _ _ _ _ _ _ (show wm.drew.heap[g12]? = _ from HGB.out)).trans rfl, (cell_of_row _ _ _ _ _ _ (show wm.drew.heap[g12]? = _ from HGB.out)).trans rfl⟩
                have HMd := hid (show Slb2 wm.drew wa.heap.size w1.heap.size (4 * k) pv xv o o from HM.out.below (below_drw (Below.refl _ _)))
                go_region_held3 (fun w' => w'.cell? ⟨g12, 7, none⟩ = some (.int .u32 (tn : Int)) ∧ w'.cell? ⟨g12, 8, none⟩ = some (.int .u32 (en : Int)) ∧ w'.cell? ⟨g12, 9, none⟩ = some (.int .u32 (gn : Int)) ∧ w'.cell? ⟨g12, 10, none⟩ = some (.int .u8 (an : Int)))
                  (first | assumption | exact hs0 | fail)
                  (first
                    | (go_at_call 17; refine (HP.out _ HMd.out (below_drw (Below.refl _ _))).mono ?_; rintro e w5 ⟨rfl, h5, k5⟩; have H5 := hid h5; have K5 := hid ((KT.refl allTs6 wa.heap.size wm).drew.trans k5); have hg5 := K5.out.block HGB.out (by decide); have hs5 : w5.cell? ⟨g12, 7, none⟩ = some (.int .u32 (tn : Int)) ∧ w5.cell? ⟨g12, 8, none⟩ = some (.int .u32 (en : Int)) ∧ w5.cell? ⟨g12, 9, none⟩ = some (.int .u32 (gn : Int)) ∧ w5.cell? ⟨g12, 10, none⟩ = some (.int .u8 (an : Int)) := ⟨(cell_of_row _ _ _ _ _ _ hg5).trans rfl, (cell_of_row _ _ _ _ _ _ hg5).trans rfl, (cell_of_row _ _ _ _ _ _ hg5).trans rfl, (cell_of_row _ _ _ _ _ _ hg5).trans rfl⟩; clear h5 k5 hg5)
                    | (go_at_call 18; refine (HR.out _ H5.out K5.out).mono ?_; rintro e w6 ⟨rfl, h6, k6⟩; have H6 := hid h6; have K6 := hid (K5.out.trans k6); have hg6 := K6.out.block HGB.out (by decide); have hs6 : w6.cell? ⟨g12, 7, none⟩ = some (.int .u32 (tn : Int)) ∧ w6.cell? ⟨g12, 8, none⟩ = some (.int .u32 (en : Int)) ∧ w6.cell? ⟨g12, 9, none⟩ = some (.int .u32 (gn : Int)) ∧ w6.cell? ⟨g12, 10, none⟩ = some (.int .u8 (an : Int)) := ⟨(cell_of_row _ _ _ _ _ _ hg6).trans rfl, (cell_of_row _ _ _ _ _ _ hg6).trans rfl, (cell_of_row _ _ _ _ _ _ hg6).trans rfl, (cell_of_row _ _ _ _ _ _ hg6).trans rfl⟩; clear h6 k6 hg6)
                    | fail)
                go_wp2_with fail
                go_meet
                case rel => exact ⟨by simp, o1, H6.out, K6.out⟩
            · as_aux_lemma =>
                subst hdq
                have hz0 : wm.cell? ⟨g12, 0, none⟩ = some (.int .u8 4) := (cell_of_row wm _ _ _ _ _ HGB.out).trans rfl
                have hz1 : wm.cell? ⟨g12, 1, none⟩ = some (.int .i64 i) := (cell_of_row wm _ _ _ _ _ HGB.out).trans rfl
                have hz2 : wm.cell? ⟨g12, 2, none⟩ = some (.int .u8 (n0 : Int)) := (cell_of_row wm _ _ _ _ _ HGB.out).trans rfl
                have hz3 : wm.cell? ⟨g12, 3, none⟩ = some (.int .u32 (n1 : Int)) := (cell_of_row wm _ _ _ _ _ HGB.out).trans rfl
                have hz4 : wm.cell? ⟨g12, 4, none⟩ = some (.int .u32 (n2 : Int)) := (cell_of_row wm _ _ _ _ _ HGB.out).trans rfl
                have hz5 : wm.cell? ⟨g12, 5, none⟩ = some (.int .u32 (n3 : Int)) := (cell_of_row wm _ _ _ _ _ HGB.out).trans rfl
                have hz6 : wm.cell? ⟨g12, 6, none⟩ = some (.slice A K C) := (cell_of_row wm _ _ _ _ _ HGB.out).trans rfl
                have hz7 : wm.cell? ⟨g12, 7, none⟩ = some (.int .u32 (tn : Int)) := (cell_of_row wm _ _ _ _ _ HGB.out).trans rfl
                have hz8 : wm.cell? ⟨g12, 8, none⟩ = some (.int .u32 (en : Int)) := (cell_of_row wm _ _ _ _ _ HGB.out).trans rfl
                have hz9 : wm.cell? ⟨g12, 9, none⟩ = some (.int .u32 (gn : Int)) := (cell_of_row wm _ _ _ _ _ HGB.out).trans rfl
                have hz10 : wm.cell? ⟨g12, 10, none⟩ = some (.int .u8 (an : Int)) := (cell_of_row wm _ _ _ _ _ HGB.out).trans rfl
                obtain ⟨ec, hec⟩ : ∃ e, e = (oloadb o).2 := ⟨_, rfl⟩
                obtain ⟨G, hG⟩ : ∃ g, g = (oloadb o).1 := ⟨_, rfl⟩
                obtain ⟨nt, hnt⟩ : ∃ k, k = G.turn.toNat := ⟨_, rfl⟩
                obtain ⟨ne, hne⟩ : ∃ k, k = G.epoch.toNat := ⟨_, rfl⟩
                obtain ⟨ng, hng⟩ : ∃ k, k = G.gen.toNat := ⟨_, rfl⟩
                obtain ⟨na, hna⟩ : ∃ k, k = G.area.toNat := ⟨_, rfl⟩
                have HGV := hid (show G.val = .agg #[.int .u32 (nt : Int), .int .u32 (ne : Int), .int .u32 (ng : Int), .int .u8 (na : Int)] by unfold Rt.val; rw [hnt, hne, hng, hna])
                have HP := hid (show Calls Try.prog 19 #[pv] wm (fun e w' => e = .returned (.tuple #[.agg #[.int .u32 (nt : Int), .int .u32 (ne : Int), .int .u32 (ng : Int), .int .u8 (na : Int)], .int .i64 ec]) ∧ Below wm.heap.size wm w') from by
                  have h := p_load HM.out
                  rw [← hec, ← hG, HGV.out] at h
                  exact h)
                have HR := hid (fun W (hW : Below wm.heap.size wm W) => show Calls Try.prog 20 #[xv] W (fun e w' => e = .returned (.tuple #[.agg #[.int .u32 (nt : Int), .int .u32 (ne : Int), .int .u32 (ng : Int), .int .u8 (na : Int)], .int .i64 ec]) ∧ Below W.heap.size W w') from by
                  have h := r_load (HM.out.below hW)
                  rw [← hec, ← hG, HGV.out] at h
                  exact h)
                clear hec hG hnt hne hng hna
                go_upto_region 26 with (first
                  | (go_at_call 19; refine (HP.out).mono ?_; rintro e w3 ⟨rfl, hb3⟩)
                  | fail)
                obtain ⟨w4, hw4⟩ : ∃ z, z = w3.alloc (.cells #[.int .u32 (nt : Int), .int .u32 (ne : Int), .int .u32 (ng : Int), .int .u8 (na : Int)] 48) := ⟨_, rfl⟩
                rw [← hw4]
                obtain ⟨g19, hg19⟩ : ∃ g, g = w3.heap.size := ⟨_, rfl⟩
                rw [← hg19]
                have hb4 : Below w3.heap.size w3 w4 := by rw [hw4]; exact (Below.refl _ _).alloc (Nat.le_refl _) _
                have HG4 := hid (show w4.heap[g19]? = some (.cells #[.int .u32 (nt : Int), .int .u32 (ne : Int), .int .u32 (ng : Int), .int .u8 (na : Int)] 48 (0, 0)) by rw [hw4, hg19]; exact heap_alloc_new _ _)
                have HB4 := hid (hb3.trans (hb4.mono hb3.size))
                clear hw4 hg19 hb4 hb3 hz0 hz1 hz2 hz3 hz4 hz5 hz6 hz7 hz8 hz9 hz10
                go_upto_region 27 with (first
                  | (go_at_call 20; refine (HR.out w4 HB4.out).mono ?_; rintro e w5 ⟨rfl, hb5⟩)
                  | fail)
                obtain ⟨w6, hw6⟩ : ∃ z, z = w5.alloc (.cells #[.int .u32 (nt : Int), .int .u32 (ne : Int), .int .u32 (ng : Int), .int .u8 (na : Int)] 36) := ⟨_, rfl⟩
                rw [← hw6]
                have hb6 : Below w5.heap.size w5 w6 := by rw [hw6]; exact (Below.refl _ _).alloc (Nat.le_refl _) _
                have hg6 : w6.heap[w5.heap.size]? = some (.cells #[.int .u32 (nt : Int), .int .u32 (ne : Int), .int .u32 (ng : Int), .int .u8 (na : Int)] 36 (0, 0)) := by rw [hw6]; exact heap_alloc_new _ _
                have hb46 := hb5.trans (hb6.mono hb5.size)
                have HB6 := hid (HB4.out.trans (hb46.mono HB4.out.size))
                have hgu := (hb46.block g19 (Array.getElem?_eq_some_iff.1 HG4.out).1).trans HG4.out
                obtain ⟨⟨m0, m1, m2, m3⟩, -, -, -, -⟩ := zero4 hgu
                obtain ⟨⟨p0, p1, p2, p3⟩, -, -, -, -⟩ := zero4 hg6
                clear hw6 hb6 hg6 hgu hb46 hb5
                go_wp2_with fail
                go_meet
                case rel => exact ⟨by simp, o, (HM.out.below HB6.out).mono (by omega), KT.of_below HB6.out HBm.out.size⟩
            · as_aux_lemma =>
                subst hdq
                have hz0 : wm.cell? ⟨g12, 0, none⟩ = some (.int .u8 5) := (cell_of_row wm _ _ _ _ _ HGB.out).trans rfl
                have hz1 : wm.cell? ⟨g12, 1, none⟩ = some (.int .i64 i) := (cell_of_row wm _ _ _ _ _ HGB.out).trans rfl
                have hz2 : wm.cell? ⟨g12, 2, none⟩ = some (.int .u8 (n0 : Int)) := (cell_of_row wm _ _ _ _ _ HGB.out).trans rfl
                have hz3 : wm.cell? ⟨g12, 3, none⟩ = some (.int .u32 (n1 : Int)) := (cell_of_row wm _ _ _ _ _ HGB.out).trans rfl
                have hz4 : wm.cell? ⟨g12, 4, none⟩ = some (.int .u32 (n2 : Int)) := (cell_of_row wm _ _ _ _ _ HGB.out).trans rfl
                have hz5 : wm.cell? ⟨g12, 5, none⟩ = some (.int .u32 (n3 : Int)) := (cell_of_row wm _ _ _ _ _ HGB.out).trans rfl
                have hz6 : wm.cell? ⟨g12, 6, none⟩ = some (.slice A K C) := (cell_of_row wm _ _ _ _ _ HGB.out).trans rfl
                have hz7 : wm.cell? ⟨g12, 7, none⟩ = some (.int .u32 (tn : Int)) := (cell_of_row wm _ _ _ _ _ HGB.out).trans rfl
                have hz8 : wm.cell? ⟨g12, 8, none⟩ = some (.int .u32 (en : Int)) := (cell_of_row wm _ _ _ _ _ HGB.out).trans rfl
                have hz9 : wm.cell? ⟨g12, 9, none⟩ = some (.int .u32 (gn : Int)) := (cell_of_row wm _ _ _ _ _ HGB.out).trans rfl
                have hz10 : wm.cell? ⟨g12, 10, none⟩ = some (.int .u8 (an : Int)) := (cell_of_row wm _ _ _ _ _ HGB.out).trans rfl
                obtain ⟨c, hc⟩ : ∃ c : Int, c = o.elim 6 fun s => s.flushed.2 := ⟨_, rfl⟩
                obtain ⟨o1, ho1⟩ : ∃ x, x = o.map fun s => s.flushed.1 := ⟨_, rfl⟩
                have HP := hid (show ∀ W, Slb2 W wa.heap.size w1.heap.size (4 * k) pv xv o o → Below wm.heap.size wm W → Calls Try.prog 21 #[pv] W (fun e w' => e = .returned (.int .i64 c) ∧ Slb2 w' wa.heap.size w1.heap.size (4 * k + 2) pv xv o1 o ∧ KT allTs6 wa.heap.size W w') from fun W h hW => by
                  subst hc ho1
                  exact p_flush h (by have := HK40.out; omega))
                have HR := hid (show ∀ W, Slb2 W wa.heap.size w1.heap.size (4 * k + 2) pv xv o1 o → KT allTs6 wa.heap.size wm W → Calls Try.prog 22 #[xv] W (fun e w' => e = .returned (.int .i64 c) ∧ Slb2 w' wa.heap.size w1.heap.size (4 * k + 2 + 2) pv xv o1 o1 ∧ KT allTs6 wa.heap.size W w') from fun W h hW => by
                  subst hc ho1
                  exact r_flush h (by have := HK40.out; omega))
                clear hc ho1
                go_wp2_with (first
                  | (go_at_call 21; refine (HP.out _ HM.out (Below.refl _ _)).mono ?_; rintro e w5 ⟨rfl, h5, k5⟩; have H5 := hid h5; have K5 := hid k5; clear h5 k5)
                  | (go_at_call 22; refine (HR.out _ H5.out K5.out).mono ?_; rintro e w6 ⟨rfl, h6, k6⟩; have H6 := hid h6; have K6 := hid (K5.out.trans k6); clear h6 k6)
                  | fail)
                go_meet
                case rel => exact ⟨by simp, o1, H6.out, K6.out⟩
            · as_aux_lemma =>
                subst hdq
                have hz0 : wm.cell? ⟨g12, 0, none⟩ = some (.int .u8 6) := (cell_of_row wm _ _ _ _ _ HGB.out).trans rfl
                have hz1 : wm.cell? ⟨g12, 1, none⟩ = some (.int .i64 i) := (cell_of_row wm _ _ _ _ _ HGB.out).trans rfl
                have hz2 : wm.cell? ⟨g12, 2, none⟩ = some (.int .u8 (n0 : Int)) := (cell_of_row wm _ _ _ _ _ HGB.out).trans rfl
                have hz3 : wm.cell? ⟨g12, 3, none⟩ = some (.int .u32 (n1 : Int)) := (cell_of_row wm _ _ _ _ _ HGB.out).trans rfl
                have hz4 : wm.cell? ⟨g12, 4, none⟩ = some (.int .u32 (n2 : Int)) := (cell_of_row wm _ _ _ _ _ HGB.out).trans rfl
                have hz5 : wm.cell? ⟨g12, 5, none⟩ = some (.int .u32 (n3 : Int)) := (cell_of_row wm _ _ _ _ _ HGB.out).trans rfl
                have hz6 : wm.cell? ⟨g12, 6, none⟩ = some (.slice A K C) := (cell_of_row wm _ _ _ _ _ HGB.out).trans rfl
                have hz7 : wm.cell? ⟨g12, 7, none⟩ = some (.int .u32 (tn : Int)) := (cell_of_row wm _ _ _ _ _ HGB.out).trans rfl
                have hz8 : wm.cell? ⟨g12, 8, none⟩ = some (.int .u32 (en : Int)) := (cell_of_row wm _ _ _ _ _ HGB.out).trans rfl
                have hz9 : wm.cell? ⟨g12, 9, none⟩ = some (.int .u32 (gn : Int)) := (cell_of_row wm _ _ _ _ _ HGB.out).trans rfl
                have hz10 : wm.cell? ⟨g12, 10, none⟩ = some (.int .u8 (an : Int)) := (cell_of_row wm _ _ _ _ _ HGB.out).trans rfl
                go_wp2_with fail
                clear hz0 hz1 hz2 hz3 hz4 hz5 hz6 hz7 hz8 hz9 hz10
                obtain ⟨c, hc⟩ : ∃ c : Int, c = o.elim 6 fun s => (s.write i Bq.data).2 := ⟨_, rfl⟩
                obtain ⟨o1, ho1⟩ : ∃ x, x = o.map fun s => (s.write i Bq.data).1 := ⟨_, rfl⟩
                have HP := hid (show ∀ W, Slb2 W wa.heap.size w1.heap.size (4 * k) pv xv o o → Below wm.heap.size wm W → Calls Try.prog 23 #[pv, .int .i64 i, .slice ad K cp] W (fun e w' => e = .returned (.int .i64 c) ∧ Slb2 w' wa.heap.size w1.heap.size (4 * k + 2) pv xv o1 o ∧ KT allTs6 wa.heap.size W w') from fun W h hW => by
                  subst hc ho1
                  exact p_write h (by have := HK40.out; omega) i ad K cp Bq.data (HMN.out.below hW))
                have HR := hid (show ∀ W, Slb2 W wa.heap.size w1.heap.size (4 * k + 2) pv xv o1 o → KT allTs6 wa.heap.size wm W → Calls Try.prog 24 #[xv, .int .i64 i, .slice A K C] W (fun e w' => e = .returned (.int .i64 c) ∧ Slb2 w' wa.heap.size w1.heap.size (4 * k + 2 + 2) pv xv o1 o1 ∧ KT allTs6 wa.heap.size W w') from fun W h hW => by
                  subst hc ho1
                  exact r_write h (by have := HK40.out; omega) i A K C Bq.data (HRDK.out W hW) HOLD.out)
                clear hc ho1
                have hs0 : wm.drew.cell? ⟨g12, 1, none⟩ = some (.int .i64 i) ∧ wm.drew.cell? ⟨g12, 6, none⟩ = some (.slice A K C) := ⟨(cell_of_row _ _ _ _ _ _ (show wm.drew.heap[g12]? = _ from HGB.out)).trans rfl, (cell_of_row _ _ _ _ _ _ (show wm.drew.heap[g12]? = _ from HGB.out)).trans rfl⟩
                have HMd := hid (show Slb2 wm.drew wa.heap.size w1.heap.size (4 * k) pv xv o o from HM.out.below (below_drw (Below.refl _ _)))
                go_region_held3 (fun w' => w'.cell? ⟨g12, 1, none⟩ = some (.int .i64 i) ∧ w'.cell? ⟨g12, 6, none⟩ = some (.slice A K C))
                  (first | assumption | exact hs0 | fail)
                  (first
                    | (go_at_call 23; refine (HP.out _ HMd.out (below_drw (Below.refl _ _))).mono ?_; rintro e w5 ⟨rfl, h5, k5⟩; have H5 := hid h5; have K5 := hid ((KT.refl allTs6 wa.heap.size wm).drew.trans k5); have hg5 := K5.out.block HGB.out (by decide); have hs5 : w5.cell? ⟨g12, 1, none⟩ = some (.int .i64 i) ∧ w5.cell? ⟨g12, 6, none⟩ = some (.slice A K C) := ⟨(cell_of_row _ _ _ _ _ _ hg5).trans rfl, (cell_of_row _ _ _ _ _ _ hg5).trans rfl⟩; clear h5 k5 hg5)
                    | (go_at_call 24; refine (HR.out _ H5.out K5.out).mono ?_; rintro e w6 ⟨rfl, h6, k6⟩; have H6 := hid h6; have K6 := hid (K5.out.trans k6); have hg6 := K6.out.block HGB.out (by decide); have hs6 : w6.cell? ⟨g12, 1, none⟩ = some (.int .i64 i) ∧ w6.cell? ⟨g12, 6, none⟩ = some (.slice A K C) := ⟨(cell_of_row _ _ _ _ _ _ hg6).trans rfl, (cell_of_row _ _ _ _ _ _ hg6).trans rfl⟩; clear h6 k6 hg6)
                    | fail)
                go_wp2_with fail
                go_meet
                case rel => exact ⟨by simp, o1, H6.out, K6.out⟩
            · as_aux_lemma =>
                subst hdq
                have hz0 : wm.cell? ⟨g12, 0, none⟩ = some (.int .u8 7) := (cell_of_row wm _ _ _ _ _ HGB.out).trans rfl
                have hz1 : wm.cell? ⟨g12, 1, none⟩ = some (.int .i64 i) := (cell_of_row wm _ _ _ _ _ HGB.out).trans rfl
                have hz2 : wm.cell? ⟨g12, 2, none⟩ = some (.int .u8 (n0 : Int)) := (cell_of_row wm _ _ _ _ _ HGB.out).trans rfl
                have hz3 : wm.cell? ⟨g12, 3, none⟩ = some (.int .u32 (n1 : Int)) := (cell_of_row wm _ _ _ _ _ HGB.out).trans rfl
                have hz4 : wm.cell? ⟨g12, 4, none⟩ = some (.int .u32 (n2 : Int)) := (cell_of_row wm _ _ _ _ _ HGB.out).trans rfl
                have hz5 : wm.cell? ⟨g12, 5, none⟩ = some (.int .u32 (n3 : Int)) := (cell_of_row wm _ _ _ _ _ HGB.out).trans rfl
                have hz6 : wm.cell? ⟨g12, 6, none⟩ = some (.slice A K C) := (cell_of_row wm _ _ _ _ _ HGB.out).trans rfl
                have hz7 : wm.cell? ⟨g12, 7, none⟩ = some (.int .u32 (tn : Int)) := (cell_of_row wm _ _ _ _ _ HGB.out).trans rfl
                have hz8 : wm.cell? ⟨g12, 8, none⟩ = some (.int .u32 (en : Int)) := (cell_of_row wm _ _ _ _ _ HGB.out).trans rfl
                have hz9 : wm.cell? ⟨g12, 9, none⟩ = some (.int .u32 (gn : Int)) := (cell_of_row wm _ _ _ _ _ HGB.out).trans rfl
                have hz10 : wm.cell? ⟨g12, 10, none⟩ = some (.int .u8 (an : Int)) := (cell_of_row wm _ _ _ _ _ HGB.out).trans rfl
                go_wp2_with fail
                clear hz0 hz1 hz2 hz3 hz4 hz5 hz6 hz7 hz8 hz9 hz10
                obtain ⟨c, hc⟩ : ∃ c : Int, c = o.elim 6 fun s => 0 := ⟨_, rfl⟩
                obtain ⟨o1, ho1⟩ : ∃ x, x = o.map fun s => s.crash Bq.data i := ⟨_, rfl⟩
                have HP := hid (show ∀ W, Slb2 W wa.heap.size w1.heap.size (4 * k) pv xv o o → Below wm.heap.size wm W → Calls Try.prog 25 #[pv, .slice ad K cp, .int .i64 i] W (fun e w' => e = .returned (.int .i64 c) ∧ Slb2 w' wa.heap.size w1.heap.size (4 * k + 2) pv xv o1 o ∧ KT allTs6 wa.heap.size W w') from fun W h hW => by
                  subst hc ho1
                  exact p_crash h (by have := HK40.out; omega) i ad K cp Bq.data (HMN.out.below hW) (fun _ q hq => HTY.out W hW q hq))
                have HR := hid (show ∀ W, Slb2 W wa.heap.size w1.heap.size (4 * k + 2) pv xv o1 o → KT allTs6 wa.heap.size wm W → Calls Try.prog 26 #[xv, .slice A K C, .int .i64 i] W (fun e w' => e = .returned (.int .i64 c) ∧ Slb2 w' wa.heap.size w1.heap.size (4 * k + 2 + 2) pv xv o1 o1 ∧ KT allTs6 wa.heap.size W w') from fun W h hW => by
                  subst hc ho1
                  exact r_crash h (by have := HK40.out; omega) i A K C Bq.data (HRDK.out W hW) HOLD.out)
                clear hc ho1
                have hs0 : wm.drew.cell? ⟨g12, 1, none⟩ = some (.int .i64 i) ∧ wm.drew.cell? ⟨g12, 6, none⟩ = some (.slice A K C) := ⟨(cell_of_row _ _ _ _ _ _ (show wm.drew.heap[g12]? = _ from HGB.out)).trans rfl, (cell_of_row _ _ _ _ _ _ (show wm.drew.heap[g12]? = _ from HGB.out)).trans rfl⟩
                have HMd := hid (show Slb2 wm.drew wa.heap.size w1.heap.size (4 * k) pv xv o o from HM.out.below (below_drw (Below.refl _ _)))
                go_region_held3 (fun w' => w'.cell? ⟨g12, 1, none⟩ = some (.int .i64 i) ∧ w'.cell? ⟨g12, 6, none⟩ = some (.slice A K C))
                  (first | assumption | exact hs0 | fail)
                  (first
                    | (go_at_call 25; refine (HP.out _ HMd.out (below_drw (Below.refl _ _))).mono ?_; rintro e w5 ⟨rfl, h5, k5⟩; have H5 := hid h5; have K5 := hid ((KT.refl allTs6 wa.heap.size wm).drew.trans k5); have hg5 := K5.out.block HGB.out (by decide); have hs5 : w5.cell? ⟨g12, 1, none⟩ = some (.int .i64 i) ∧ w5.cell? ⟨g12, 6, none⟩ = some (.slice A K C) := ⟨(cell_of_row _ _ _ _ _ _ hg5).trans rfl, (cell_of_row _ _ _ _ _ _ hg5).trans rfl⟩; clear h5 k5 hg5)
                    | (go_at_call 26; refine (HR.out _ H5.out K5.out).mono ?_; rintro e w6 ⟨rfl, h6, k6⟩; have H6 := hid h6; have K6 := hid (K5.out.trans k6); have hg6 := K6.out.block HGB.out (by decide); have hs6 : w6.cell? ⟨g12, 1, none⟩ = some (.int .i64 i) ∧ w6.cell? ⟨g12, 6, none⟩ = some (.slice A K C) := ⟨(cell_of_row _ _ _ _ _ _ hg6).trans rfl, (cell_of_row _ _ _ _ _ _ hg6).trans rfl⟩; clear h6 k6 hg6)
                    | fail)
                go_wp2_with fail
                go_meet
                case rel => exact ⟨by simp, o1, H6.out, K6.out⟩
            · as_aux_lemma =>
                subst hdq
                have hz0 : wm.cell? ⟨g12, 0, none⟩ = some (.int .u8 8) := (cell_of_row wm _ _ _ _ _ HGB.out).trans rfl
                have hz1 : wm.cell? ⟨g12, 1, none⟩ = some (.int .i64 i) := (cell_of_row wm _ _ _ _ _ HGB.out).trans rfl
                have hz2 : wm.cell? ⟨g12, 2, none⟩ = some (.int .u8 (n0 : Int)) := (cell_of_row wm _ _ _ _ _ HGB.out).trans rfl
                have hz3 : wm.cell? ⟨g12, 3, none⟩ = some (.int .u32 (n1 : Int)) := (cell_of_row wm _ _ _ _ _ HGB.out).trans rfl
                have hz4 : wm.cell? ⟨g12, 4, none⟩ = some (.int .u32 (n2 : Int)) := (cell_of_row wm _ _ _ _ _ HGB.out).trans rfl
                have hz5 : wm.cell? ⟨g12, 5, none⟩ = some (.int .u32 (n3 : Int)) := (cell_of_row wm _ _ _ _ _ HGB.out).trans rfl
                have hz6 : wm.cell? ⟨g12, 6, none⟩ = some (.slice A K C) := (cell_of_row wm _ _ _ _ _ HGB.out).trans rfl
                have hz7 : wm.cell? ⟨g12, 7, none⟩ = some (.int .u32 (tn : Int)) := (cell_of_row wm _ _ _ _ _ HGB.out).trans rfl
                have hz8 : wm.cell? ⟨g12, 8, none⟩ = some (.int .u32 (en : Int)) := (cell_of_row wm _ _ _ _ _ HGB.out).trans rfl
                have hz9 : wm.cell? ⟨g12, 9, none⟩ = some (.int .u32 (gn : Int)) := (cell_of_row wm _ _ _ _ _ HGB.out).trans rfl
                have hz10 : wm.cell? ⟨g12, 10, none⟩ = some (.int .u8 (an : Int)) := (cell_of_row wm _ _ _ _ _ HGB.out).trans rfl
                go_wp2_with fail
                clear hz0 hz1 hz2 hz3 hz4 hz5 hz6 hz7 hz8 hz9 hz10
                obtain ⟨c, hc⟩ : ∃ c : Int, c = o.elim 6 fun s => (s.arm i).2 := ⟨_, rfl⟩
                obtain ⟨o1, ho1⟩ : ∃ x, x = o.map fun s => (s.arm i).1 := ⟨_, rfl⟩
                have HP := hid (show ∀ W, Slb2 W wa.heap.size w1.heap.size (4 * k) pv xv o o → Below wm.heap.size wm W → Calls Try.prog 27 #[pv, .int .i64 i] W (fun e w' => e = .returned (.int .i64 c) ∧ Slb2 w' wa.heap.size w1.heap.size (4 * k + 2) pv xv o1 o ∧ KT allTs6 wa.heap.size W w') from fun W h hW => by
                  subst hc ho1
                  exact p_arm h i HI.out.2)
                have HR := hid (show ∀ W, Slb2 W wa.heap.size w1.heap.size (4 * k + 2) pv xv o1 o → KT allTs6 wa.heap.size wm W → Calls Try.prog 28 #[xv, .int .i64 i] W (fun e w' => e = .returned (.int .i64 c) ∧ Slb2 w' wa.heap.size w1.heap.size (4 * k + 2 + 2) pv xv o1 o1 ∧ KT allTs6 wa.heap.size W w') from fun W h hW => by
                  subst hc ho1
                  exact r_arm h i HI.out.2)
                clear hc ho1
                have hs0 : wm.drew.cell? ⟨g12, 1, none⟩ = some (.int .i64 i) := (cell_of_row _ _ _ _ _ _ (show wm.drew.heap[g12]? = _ from HGB.out)).trans rfl
                have HMd := hid (show Slb2 wm.drew wa.heap.size w1.heap.size (4 * k) pv xv o o from HM.out.below (below_drw (Below.refl _ _)))
                go_region_held3 (fun w' => w'.cell? ⟨g12, 1, none⟩ = some (.int .i64 i))
                  (first | assumption | exact hs0 | fail)
                  (first
                    | (go_at_call 27; refine (HP.out _ HMd.out (below_drw (Below.refl _ _))).mono ?_; rintro e w5 ⟨rfl, h5, k5⟩; have H5 := hid h5; have K5 := hid ((KT.refl allTs6 wa.heap.size wm).drew.trans k5); have hg5 := K5.out.block HGB.out (by decide); have hs5 : w5.cell? ⟨g12, 1, none⟩ = some (.int .i64 i) := (cell_of_row _ _ _ _ _ _ hg5).trans rfl; clear h5 k5 hg5)
                    | (go_at_call 28; refine (HR.out _ H5.out K5.out).mono ?_; rintro e w6 ⟨rfl, h6, k6⟩; have H6 := hid h6; have K6 := hid (K5.out.trans k6); have hg6 := K6.out.block HGB.out (by decide); have hs6 : w6.cell? ⟨g12, 1, none⟩ = some (.int .i64 i) := (cell_of_row _ _ _ _ _ _ hg6).trans rfl; clear h6 k6 hg6)
                    | fail)
                go_wp2_with fail
                go_meet
                case rel => exact ⟨by simp, o1, H6.out, K6.out⟩
            · as_aux_lemma =>
                have hy0 : ((d : Int) == 0) = false := by rw [beq_eq_false_iff_ne]; omega
                have hy1 : ((d : Int) == 1) = false := by rw [beq_eq_false_iff_ne]; omega
                have hy2 : ((d : Int) == 2) = false := by rw [beq_eq_false_iff_ne]; omega
                have hy3 : ((d : Int) == 3) = false := by rw [beq_eq_false_iff_ne]; omega
                have hy4 : ((d : Int) == 4) = false := by rw [beq_eq_false_iff_ne]; omega
                have hy5 : ((d : Int) == 5) = false := by rw [beq_eq_false_iff_ne]; omega
                have hy6 : ((d : Int) == 6) = false := by rw [beq_eq_false_iff_ne]; omega
                have hy7 : ((d : Int) == 7) = false := by rw [beq_eq_false_iff_ne]; omega
                have hy8 : ((d : Int) == 8) = false := by rw [beq_eq_false_iff_ne]; omega
                go_wp2_with fail
                go_meet
                case rel => exact ⟨rfl, o, HM.out.mono (by omega), KT.refl _ _ _⟩
          case rest =>
            as_aux_lemma =>
              obtain ⟨rfl, o1, hs1, hk1⟩ := hcut
              have HS1 := hid hs1
              have HK1 := hid hk1
              have hgc := HK1.out.block HGB.out (by decide)
              have hz6 : wc.cell? ⟨g12, 6, none⟩ = some (.slice A K C) := (cell_of_row wc _ _ _ _ _ hgc).trans rfl
              have HMC := hid (show Rd wc (.slice ad K cp) Bq.data from (show Own wc _ _ _ from owns_kt HOM.out HK1.out (by decide)).rd)
              have HRC := hid (show Rd wc (.slice A K C) Bq.data from HR0.out.below (HBA.out.trans ((HBm.out.trans HK1.out.below).mono hsa)))
              clear hs1 hk1 hgc
              go_wp2_with (first
                | (go_at_call 29; refine (same_eq _ _ Bq.data wc HMC.out HRC.out).mono ?_; rintro e w' ⟨rfl, rfl⟩)
                | fail)
              go_roundw
              case rel => exact ⟨k + 1, o1, hlt, by omega, by go_num, HS1.out.mono (by omega), HBm.out.trans HK1.out.below⟩
              case measure => simp [intOf]; omega
        · have h40i : decide ((k : Int) ≥ 40) = true := decide_eq_true (by omega)
          have h40n : (40 : Int) ≤ (k : Int) := by omega
          as_aux_lemma =>
            go_wp2_with fail
            go_ret
            exact ⟨rfl, HBw.out.alloc HBw.out.size _⟩
      · have hkl : ¬ (k : Int) < (len2 : Int) := by omega
        as_aux_lemma =>
          go_wp2_with fail
          go_ret
          exact ⟨rfl, HBw.out⟩

/-! ### THE ROW's STEP -/
set_option maxRecDepth 100000 in
theorem lifted (os : Os) (started : os.Started) (H : Type) (enc : TypeId × Value → H) :
    ReturnsInHanded {} Try.checked os 3 .any (Rows.blockPlaysSpec.pre6 enc Try.prog Try.f3 Rows.blockPlaysRow.domain false) (Rows.blockPlaysSpec.post enc Try.prog Try.f3 false true false false) := by
  refine returnsInHanded_of_change (C := Try.checked) own started (by kernel_rfl) Try.func3
    (ChangeSpec.witness6 (enc := enc) (C := Try.checked) false ⟨#[], #[.int .u8 0, .bool false, .slice none 0 0], []⟩ 8 (by kernel_rfl) (by kernel_rfl) (by kernel_rfl) (by kernel_rfl)) ?_
  intro W base args ds gs before hval0 hW hcnd _
  have hval : ∀ (j : Nat) t v, Try.f3.params[j]? = some t → args[j]? = some v → Value.okWide Try.prog W .any base t v := hval0
  have hW' := hW
  obtain ⟨p, q, hA0, hV, rfl, hfz, hnd⟩ := hW
  have hA : DataW.TrodAll enc Try.prog W 0 (fun _ => true) true Try.f3.params.toList args.toList ds p := hA0
  rw [Try.params3] at hA hval
  obtain ⟨v0, vs0, d0, ds0, p0, q0, hargs, rfl, rfl, h0, r0⟩ := trodAll_cons hA
  obtain ⟨v1, vs1, d1, ds1, p1, q1, rfl, rfl, rfl, h1, r1⟩ := trodAll_cons r0
  obtain ⟨v2, vs2, d2, ds2, p2, q2, rfl, rfl, rfl, h2, r2⟩ := trodAll_cons r1
  obtain ⟨rfl, rfl, rfl⟩ := trodAll_nil r2
  obtain rfl : args = #[v0, v1, v2] := by cases args; simp_all
  obtain ⟨rfl, rfl⟩ := trodVars_none hV
  have k0 := h0
  have lt0 : ∀ x ∈ p0, x.block < W.heap.size := by obtain ⟨m, hm⟩ := k0; exact DataW.trod_lt m _ _ _ hm
  have k1 := h1
  have lt1 : ∀ x ∈ p1, x.block < W.heap.size := by obtain ⟨m, hm⟩ := k1; exact DataW.trod_lt m _ _ _ hm
  have k2 := h2
  have lt2 : ∀ x ∈ p2, x.block < W.heap.size := by obtain ⟨m, hm⟩ := k2; exact DataW.trod_lt m _ _ _ hm
  obtain ⟨a0, rfl, rfl, rfl, w0⟩ := open_int Try.underlying5 (hval 0 5 v0 rfl rfl) h0
  obtain ⟨a1, rfl, rfl, rfl⟩ := open_bool Try.underlying4 (hval 1 4 v1 rfl rfl) h1
  obtain ⟨a2, len2, cap2, rfl⟩ := okWide_slice Try.underlying22 (hval 2 22 v2 rfl rfl)
  have w2 : IsOps6 W a2 len2 cap2 := isOps6_of h2
  clear hA0 hval0
  refine (walk a0 a1 a2 len2 cap2 W w0 w2).mono fun e W' ⟨he, bel⟩ => ?_
  subst he
  exact ⟨_, rfl, _, _, _, [], _, [], hW', trodAll_mk1 (shut_bool Try.underlying4 _), (trodAll_cons_mk (Below.trod laidOut (by kernel_rfl) (of_decide_eq_true (by kernel_rfl)) k0 bel lt0) (trodAll_cons_mk (Below.trod laidOut (by kernel_rfl) (of_decide_eq_true (by kernel_rfl)) k1 bel lt1) (trodAll_cons_mk (Below.trod laidOut (by kernel_rfl) (of_decide_eq_true (by kernel_rfl)) k2 bel lt2) trodAll_mk0))), rfl, bel.frame _, fun h => by cases h⟩

theorem over : Rows.blockPlaysRow.holds Try.pinned (OpenSpec.ofChange Rows.blockPlaysSpec) :=
  OpenClaim.holds_of_wide 3 Try.f3 rfl rfl rfl rfl rfl rfl rfl ⟨rfl, rfl, rfl, rfl, rfl⟩ rfl rfl rfl rfl rfl (by kernel_rfl) Try.func3 (by kernel_rfl)
    (of_decide_eq_true (by kernel_rfl)) (by unfold Func.isWrapper; first | (rw [if_pos (by decide +kernel)]; kernel_rfl) | (rw [if_neg (by decide +kernel)]; exact ⟨rfl, rfl⟩))
    (fun os started H enc _ => lifted os started H enc)

/-- THE STATEMENT -/
theorem blockPlays_holds : Rows.BlockPlaysSaid := over
#print axioms blockPlays_holds
end Go.Proofs.Ytbagpckiegpalaa.blockPlays
