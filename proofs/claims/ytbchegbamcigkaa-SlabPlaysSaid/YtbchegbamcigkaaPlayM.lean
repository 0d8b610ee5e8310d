/-
  SlabPlays, in parts: a slab of at most 20 sectors
-/
import Derived.Test.YtbchegbamcigkaaRows
import Derived.WalkKit
import Derived.Test.YtbchegbamcigkaaAwake5
import Derived.Test.YtbchegbamcigkaaAppG
import Derived.Test.YtbchegbamcigkaaSame
import Derived.Test.YtbchegbamcigkaaSlabP
import Derived.Test.YtbchegbamcigkaaOps5
import Derived.Test.YtbchegbamcigkaaPlayH
import Derived.ProofKit
import Derived.Deep.Cut
import Derived.Deep.CutRange
import Derived.Deep.CutBlock
import Derived.Below
namespace Go.Proofs.Ytbchegbamcigkaa
open Go.RowKit
set_option linter.unusedVariables false

set_option maxRecDepth 100000 in
set_option maxHeartbeats 16000000 in
theorem plays_mid (n : Nat) (A2 : Option Addr) (L2 C2 : Nat) (w : World) (hn : 1 ≤ n ∧ n ≤ 20) (w1 : IsOps w A2 L2 C2) :
    Calls Try.prog 3 #[.int .i64 (n : Int), .slice A2 L2 C2] w fun e w' => e = .returned (.bool true) ∧ Below w.heap.size w w' := by
  have HOPS := hid w1
  obtain ⟨ob1, ob2⟩ := w1.bounds
  have HN := hid hn
  have h20 : ((20 : Int) < (n : Int)) = False := eq_false (by omega)
  clear w1 hn
  go_enter Try.func3, Try.ntmps3
  go_wp2_with fail
  refine (awake5_any w).mono ?_
  rintro e wa ⟨rfl, hba⟩
  have HBA := hid hba
  have hsa := hba.size
  clear hba
  go_wp2_with fail
  refine (new_yes n wa (by have := HN.out; omega) (by have := HN.out; omega)).mono ?_
  rintro e w1 ⟨b, bn, bd, rfl, n1, hb1⟩
  have H1 := hid (show SlabAt w1 wa.heap.size b bn bd (.slice none 0 0) (Sl.new n) from n1)
  have hs1 := hb1.size
  have B1_ := hid hb1
  clear n1 hb1
  go_wp2_with fail
  refine (refnew_yes n w1 (by have := HN.out; omega) (by have := HN.out; omega)).mono ?_
  rintro e w2 ⟨rb, gd, cd, rfl, r2, hb2⟩
  have R2 := hid r2
  have H2 := hid (H1.out.below hb2)
  have B2 := hid (B1_.out.trans (hb2.mono hs1))
  clear r2 hb2
  go_wp2_with fail
  go_loopw [55] (fun i wr => ∃ (k : Nat) (s : Sl) (wv rv : Value), k ≤ L2 ∧ k ≤ 60 ∧ i = .int .i64 k ∧ SlabAt wr wa.heap.size b bn bd wv s ∧ RefAt wr ⟨w1.heap.size, fun g => w1.heap.size ≤ g⟩ rb gd cd rv s ∧ s.fits ∧ (s.steps ≤ k ∧ s.way.length ≤ k) ∧ Below wa.heap.size wa wr) (fun i _ => L2 - (intOf i).toNat)
  case atStart => exact ⟨0, Sl.new n, _, _, by omega, by omega, rfl, H2.out, R2.out, Sl.new_fits _, ⟨Nat.le_refl _, Nat.le_refl _⟩, B2.out⟩
  case round =>
    obtain ⟨k, s, wv, rv, hk1, hk2, rfl, hs, hr, hf, hst, hB⟩ := hrel
    have HS := hid hs
    have HRR := hid hr
    have HF := hid hf
    have HST := hid hst
    have HB := hid hB
    have HBw := hid (HBA.out.trans (hB.mono hsa))
    clear hs hr hf hst hB
    by_cases hlt : k < L2
    · obtain ⟨ob, off, eA, hob, hlist⟩ := HOPS.out.list (by omega) 140
      obtain ⟨os, hos1, hos⟩ := hlist L2 (Nat.le_refl _)
      obtain ⟨o, A, L, C, ho, hc0, hd, hc1, hn0, hn1, hc2, hLC, hC, hlen, hrd⟩ := hos k hlt
      clear hos hos1 hlist ho
      subst eA
      have hcell0 := (HBw.out.cell (p := ⟨ob, off + k * 3, none⟩) hob).trans hc0
      have hcell1 := (HBw.out.cell (p := ⟨ob, off + (k * 3 + 1), none⟩) hob).trans hc1
      have hcell2 := (HBw.out.cell (p := ⟨ob, off + (k * 3 + 2), none⟩) hob).trans hc2
      rw [← Nat.add_assoc] at hcell1 hcell2
      have HRD0 := hid hrd
      have HRD := hid (hrd.below HBw.out)
      obtain ⟨M, hM⟩ : ∃ M, M = min L 140 := ⟨_, rfl⟩
      rw [← hM] at HRD HRD0 hlen
      have m140 : (if (140 : Int) < (L : Int) then (140 : Int) else (L : Int)) = (M : Int) := by subst hM; split <;> omega
      have jM : (M : Int) ≤ (C : Int) := by omega
      have hM1 : M ≤ C := by omega
      have hM2 : M ≤ 140 := by omega
      have HLEN := hid hlen
      clear hc0 hc1 hc2 hrd hlen hM
      by_cases h60 : k < 60
      · have h60i : (k : Int) < 60 := by omega
        have hA0 : (wr.alloc (.cells #[.int .u8 (o.d : Int), .int .i64 o.n, .slice A L C] 33)).cell? ⟨wr.heap.size, 0, none⟩ = some (.int .u8 (o.d : Int)) := (cell_of_row _ _ _ _ _ _ (heap_alloc_new wr _)).trans rfl
        have hA2 : (wr.alloc (.cells #[.int .u8 (o.d : Int), .int .i64 o.n, .slice A L C] 33)).cell? ⟨wr.heap.size, 2, none⟩ = some (.slice A L C) := (cell_of_row _ _ _ _ _ _ (heap_alloc_new wr _)).trans rfl
        go_upto_region 14 with fail
        obtain ⟨wo, hwo⟩ : ∃ wo, wo = wr.alloc (.cells #[.int .u8 (o.d : Int), .int .i64 o.n, .slice A L C] 33) := ⟨_, rfl⟩
        have HOB := hid (show wo.heap[wr.heap.size]? = some (.cells #[.int .u8 (o.d : Int), .int .i64 o.n, .slice A L C] 33 (0, 0)) by rw [hwo]; exact heap_alloc_new wr _)
        have hbo : Below wr.heap.size wr wo := by rw [hwo]; exact (Below.refl _ _).alloc (Nat.le_refl _) _
        have HBO := hid hbo
        have hso2 : wr.heap.size < wo.heap.size := by rw [hwo]; simp
        rw [← hwo]
        have HE := hid (Own.empty wo wo.heap.size (Nat.le_refl _))
        have HPe := hid ((HRD.out.below hbo).alloc (.cells #[] 5))
        obtain ⟨dd, hdd⟩ : ∃ dd, dd = o.d := ⟨_, rfl⟩
        have HDD := hid hdd
        clear hwo hbo hA0 hA2 hdd hcell0 hcell1 hcell2
        have HMo := hid (HS.out.below HBO.out)
        have HRo := hid (HRR.out.below HBO.out)
        go_upto_block 2 with (first | (at_builtin; (refine appw (by rfl) (.tmp 69) (.tmp 70) rfl wo.heap.size (.slice (some ⟨wo.heap.size, 0, none⟩) 0 0) _ [] o.t o.t M rfl rfl HE.out HPe.out (by have := HLEN.out; simp; omega) rfl (by have := HLEN.out; simp; omega) (by simp) ?_); intro ad2 cp2 wm ho2 hg2; have Qm := hid ho2; have HNm := hid (((Below.refl wo.heap.size wo).alloc (Nat.le_refl _) (.cells #[] 5)).grown hg2 (by simp) (fun k hk => by have : wo.heap.size = k := Option.some.inj hk; omega)); have hs2 := HNm.out.size; have HOBm := hid ((HNm.out.block wr.heap.size hso2).trans HOB.out); have e0 : wm.cell? ⟨wr.heap.size, 0, none⟩ = some (.int .u8 (dd : Int)) := (cell_of_row _ _ _ _ _ _ HOBm.out).trans (by rw [HDD.out]; rfl); have e1 : wm.cell? ⟨wr.heap.size, 1, none⟩ = some (.int .i64 o.n) := (cell_of_row _ _ _ _ _ _ HOBm.out).trans rfl; have HPm := hid ((HRD.out.below HBO.out).below HNm.out); clear ho2 hg2; skip) | fail)
        have HBo := hid (HB.out.trans (HBO.out.mono HB.out.size))
        have HM := hid (HMo.out.below HNm.out)
        have HRM := hid ((HRo.out.avoid (v := .slice ad2 M cp2) (fun q hq => (Qm.out.lt q hq).1) : RefAt wo _ rb gd cd rv s).below HNm.out)
        have HBM := hid (HB.out.trans ((HBO.out.mono HB.out.size).trans (HNm.out.mono (by have := HB.out.size; omega))))
        have hwm : wr.heap.size < wm.heap.size := by have := HNm.out.size; omega
        have HNS := hid (HM.out.apart' HOBm.out (by decide) (by decide) (by decide))
        have HNR := hid (HRM.out.ne HOBm.out (by decide) (by decide))
        have HNR2 := hid (show ¬ (wr.heap.size = rb ∨ wr.heap.size = gd) from fun e => e.elim HNR.out.1 HNR.out.2)
        have hst1 : s.steps ≤ 1000000 := by have := HST.out; omega
        have hwy1 : s.way.length < 1000000 := by have := HST.out; omega
        have h1a : wa.heap.size ≤ w1.heap.size := hs1
        have HPA := hid (HRD0.out.below HBA.out)
        have HPR := hid (show o.t ≠ [] → ∀ q, (Value.slice A M C).ownBlock = some q → q ≠ rb from fun hne q hq => by have := rd_old HRD0.out hne q hq; have := HRM.out.low; have h5 : w1.heap.size ≤ rb := this.1; omega)
        have HPG := hid (show o.t ≠ [] → ∀ q, (Value.slice A M C).ownBlock = some q → q ≠ gd from fun hne q hq => by have := rd_old HRD0.out hne q hq; have := HRM.out.low; have h5 : w1.heap.size ≤ gd := this.2.1; omega)
        have HQB := hid (show o.t ≠ [] → ∀ q, (Value.slice ad2 M cp2).ownBlock = some q → q ≠ bd from fun _ q hq => by have := (Qm.out.lt q hq).1; have := HS.out.size; omega)
        go_cut [13, 14, 15, 16, 17, 18] from 74 to 155 (fun v13 v14 v15 v16 v17 v18 wx => v13 = .bool true ∧ Own wx wo.heap.size (.slice ad2 M cp2) o.t ∧ ∃ s' wv' rv', SlabAt wx wa.heap.size b bn bd wv' s' ∧ RefAt wx ⟨w1.heap.size, fun g => w1.heap.size ≤ g ∧ (Value.slice ad2 M cp2).ownBlock ≠ some g⟩ rb gd cd rv' s' ∧ s'.fits ∧ (s'.steps ≤ k + 1 ∧ s'.way.length ≤ k + 1) ∧ Below wa.heap.size wa wx)
        case first =>
          have hparts : dd = 0 ∨ dd = 1 ∨ dd = 2 ∨ dd = 3 ∨ dd = 4 ∨ dd = 5 ∨ dd = 6 ∨ 6 < dd := by omega
          rcases hparts with hdq | hdq | hdq | hdq | hdq | hdq | hdq | hdq
          · as_aux_lemma =>
              subst hdq
              go_wp2_with fail
              have HMd := hid (show SlabAt wm.drew wa.heap.size b bn bd wv s from HM.out)
              have HRd := hid (show RefAt wm.drew ⟨w1.heap.size, fun g => w1.heap.size ≤ g ∧ (Value.slice ad2 M cp2).ownBlock ≠ some g⟩ rb gd cd rv s from HRM.out)
              have HQd := hid (show Own wm.drew wo.heap.size (.slice ad2 M cp2) o.t from Qm.out)
              go_region_held3 (fun w' => w'.cell? ⟨wr.heap.size, 1, none⟩ = some (.int .i64 o.n))
                (first
                  | assumption
                  | exact (hk5.cell (p := ⟨wr.heap.size, 1, none⟩) hwm HNS.out).trans (by assumption)
                  | exact (k6.cell (p := ⟨wr.heap.size, 1, none⟩) hw5 HNR.out.1).trans (by assumption)
                  | exact (k6.cell (p := ⟨wr.heap.size, 1, none⟩) hw5 HNR2.out).trans (by assumption)
                  | fail)
                (first | (go_at_call 17; refine (write_all wa.heap.size b bn bd wv s o.n _ o.t _ HMd.out hst1 hwy1 HQd.out.rd).mono ?_; rintro e w5 ⟨wv5, rfl, h5, hk5⟩; have R5 := hid (RefAt.keepsSlab HMd.out HRd.out hk5); have Q5 := hid (Own.keepsSlab HMd.out HQd.out hk5); have B5 := hid ((HBM.out.drew).trans (HMd.out.keep hk5)); have P5 := hid (HPA.out.below B5.out); have c5 := (hk5.cell (p := ⟨wr.heap.size, 1, none⟩) hwm HNS.out).trans e1; have hw5 := Nat.lt_of_lt_of_le hwm hk5.size; have HP5 := hid (show ∀ g, w5.heap.size ≤ g → w1.heap.size ≤ g ∧ (Value.slice ad2 M cp2).ownBlock ≠ some g from fun g hg => ⟨by have h9 : w1.heap.size ≤ w5.heap.size := R5.out.low.2.2; omega, fun e => by have := (Q5.out.lt g e).2; omega⟩); dsimp only) | (go_at_call 18; refine (refput_all ⟨w1.heap.size, fun g => w1.heap.size ≤ g ∧ (Value.slice ad2 M cp2).ownBlock ≠ some g⟩ rb gd cd rv s o.n _ o.t _ R5.out hst1 hwy1 P5.out HPR.out HP5.out).mono ?_; rintro e w6 ⟨rv6, rfl, h6, k6⟩; have H6 := hid (SlabAt.keepsRef h5 R5.out (k6.mono (fun _ _ e => .inl e))); have Q6 := hid (Own.keepsRef R5.out Q5.out (k6.mono (fun _ _ e => .inl e))); have B6 := hid (B5.out.trans ((RefAt.keep R5.out (k6.mono (fun _ _ e => .inl e))).mono h1a)); have c6 := (k6.cell (p := ⟨wr.heap.size, 1, none⟩) hw5 HNR.out.1).trans c5; dsimp only) | fail)
              go_wp2_with fail
              go_meet
              case rel => exact ⟨rfl, Q6.out, (s.write o.n o.t).1, wv5, rv6, H6.out, h6, Sl.write_fits HF.out HMd.out.okay _ _, by have := HST.out; have := s.write_steps o.n o.t; omega, B6.out⟩
          · as_aux_lemma =>
              subst hdq
              go_wp2_with fail
              have HMd := hid (show SlabAt wm.drew wa.heap.size b bn bd wv s from HM.out)
              have HRd := hid (show RefAt wm.drew ⟨w1.heap.size, fun g => w1.heap.size ≤ g ∧ (Value.slice ad2 M cp2).ownBlock ≠ some g⟩ rb gd cd rv s from HRM.out)
              have HQd := hid (show Own wm.drew wo.heap.size (.slice ad2 M cp2) o.t from Qm.out)
              go_region_held3 (fun w' => w'.cell? ⟨wr.heap.size, 1, none⟩ = some (.int .i64 o.n))
                (first
                  | assumption
                  | exact (hk5.cell (p := ⟨wr.heap.size, 1, none⟩) hwm HNS.out).trans (by assumption)
                  | exact (k6.cell (p := ⟨wr.heap.size, 1, none⟩) hw5 HNR.out.1).trans (by assumption)
                  | exact (k6.cell (p := ⟨wr.heap.size, 1, none⟩) hw5 HNR2.out).trans (by assumption)
                  | fail)
                (first | (go_at_call 17; refine (write_all wa.heap.size b bn bd wv s o.n _ o.t _ HMd.out hst1 hwy1 HQd.out.rd).mono ?_; rintro e w5 ⟨wv5, rfl, h5, hk5⟩; have R5 := hid (RefAt.keepsSlab HMd.out HRd.out hk5); have Q5 := hid (Own.keepsSlab HMd.out HQd.out hk5); have B5 := hid ((HBM.out.drew).trans (HMd.out.keep hk5)); have P5 := hid (HPA.out.below B5.out); have c5 := (hk5.cell (p := ⟨wr.heap.size, 1, none⟩) hwm HNS.out).trans e1; have hw5 := Nat.lt_of_lt_of_le hwm hk5.size; have HP5 := hid (show ∀ g, w5.heap.size ≤ g → w1.heap.size ≤ g ∧ (Value.slice ad2 M cp2).ownBlock ≠ some g from fun g hg => ⟨by have h9 : w1.heap.size ≤ w5.heap.size := R5.out.low.2.2; omega, fun e => by have := (Q5.out.lt g e).2; omega⟩); dsimp only) | (go_at_call 18; refine (refput_all ⟨w1.heap.size, fun g => w1.heap.size ≤ g ∧ (Value.slice ad2 M cp2).ownBlock ≠ some g⟩ rb gd cd rv s o.n _ o.t _ R5.out hst1 hwy1 P5.out HPR.out HP5.out).mono ?_; rintro e w6 ⟨rv6, rfl, h6, k6⟩; have H6 := hid (SlabAt.keepsRef h5 R5.out (k6.mono (fun _ _ e => .inl e))); have Q6 := hid (Own.keepsRef R5.out Q5.out (k6.mono (fun _ _ e => .inl e))); have B6 := hid (B5.out.trans ((RefAt.keep R5.out (k6.mono (fun _ _ e => .inl e))).mono h1a)); have c6 := (k6.cell (p := ⟨wr.heap.size, 1, none⟩) hw5 HNR.out.1).trans c5; dsimp only) | fail)
              go_wp2_with fail
              go_meet
              case rel => exact ⟨rfl, Q6.out, (s.write o.n o.t).1, wv5, rv6, H6.out, h6, Sl.write_fits HF.out HMd.out.okay _ _, by have := HST.out; have := s.write_steps o.n o.t; omega, B6.out⟩
          · as_aux_lemma =>
              subst hdq
              go_wp2_with fail
              have HMd := hid (show SlabAt wm.drew wa.heap.size b bn bd wv s from HM.out)
              have HRd := hid (show RefAt wm.drew ⟨w1.heap.size, fun g => w1.heap.size ≤ g ∧ (Value.slice ad2 M cp2).ownBlock ≠ some g⟩ rb gd cd rv s from HRM.out)
              have HQd := hid (show Own wm.drew wo.heap.size (.slice ad2 M cp2) o.t from Qm.out)
              go_region_held3 (fun w' => w'.cell? ⟨wr.heap.size, 1, none⟩ = some (.int .i64 o.n))
                (first
                  | assumption
                  | exact (hk5.cell (p := ⟨wr.heap.size, 1, none⟩) hwm HNS.out).trans (by assumption)
                  | exact (k6.cell (p := ⟨wr.heap.size, 1, none⟩) hw5 HNR.out.1).trans (by assumption)
                  | exact (k6.cell (p := ⟨wr.heap.size, 1, none⟩) hw5 HNR2.out).trans (by assumption)
                  | fail)
                (first | (go_at_call 17; refine (write_all wa.heap.size b bn bd wv s o.n _ o.t _ HMd.out hst1 hwy1 HQd.out.rd).mono ?_; rintro e w5 ⟨wv5, rfl, h5, hk5⟩; have R5 := hid (RefAt.keepsSlab HMd.out HRd.out hk5); have Q5 := hid (Own.keepsSlab HMd.out HQd.out hk5); have B5 := hid ((HBM.out.drew).trans (HMd.out.keep hk5)); have P5 := hid (HPA.out.below B5.out); have c5 := (hk5.cell (p := ⟨wr.heap.size, 1, none⟩) hwm HNS.out).trans e1; have hw5 := Nat.lt_of_lt_of_le hwm hk5.size; have HP5 := hid (show ∀ g, w5.heap.size ≤ g → w1.heap.size ≤ g ∧ (Value.slice ad2 M cp2).ownBlock ≠ some g from fun g hg => ⟨by have h9 : w1.heap.size ≤ w5.heap.size := R5.out.low.2.2; omega, fun e => by have := (Q5.out.lt g e).2; omega⟩); dsimp only) | (go_at_call 18; refine (refput_all ⟨w1.heap.size, fun g => w1.heap.size ≤ g ∧ (Value.slice ad2 M cp2).ownBlock ≠ some g⟩ rb gd cd rv s o.n _ o.t _ R5.out hst1 hwy1 P5.out HPR.out HP5.out).mono ?_; rintro e w6 ⟨rv6, rfl, h6, k6⟩; have H6 := hid (SlabAt.keepsRef h5 R5.out (k6.mono (fun _ _ e => .inl e))); have Q6 := hid (Own.keepsRef R5.out Q5.out (k6.mono (fun _ _ e => .inl e))); have B6 := hid (B5.out.trans ((RefAt.keep R5.out (k6.mono (fun _ _ e => .inl e))).mono h1a)); have c6 := (k6.cell (p := ⟨wr.heap.size, 1, none⟩) hw5 HNR.out.1).trans c5; dsimp only) | fail)
              go_wp2_with fail
              go_meet
              case rel => exact ⟨rfl, Q6.out, (s.write o.n o.t).1, wv5, rv6, H6.out, h6, Sl.write_fits HF.out HMd.out.okay _ _, by have := HST.out; have := s.write_steps o.n o.t; omega, B6.out⟩
          · as_aux_lemma =>
              subst hdq
              go_wp2_with fail
              refine (read_all wa.heap.size b bn bd wv s o.n wm HM.out).mono ?_
              rintro e w5 ⟨va, rfl, ha⟩
              rw [read_got s HF.out o.n] at ha ⊢
              obtain ⟨l, hl⟩ : ∃ l, l = (s.got o.n).1 := ⟨_, rfl⟩
              obtain ⟨er, her⟩ : ∃ er, er = (s.got o.n).2 := ⟨_, rfl⟩
              rw [← hl, ← her] at ha
              rw [← her]
              have HLq := hid hl
              have HEq := hid her
              clear hl her
              have HAb := hid ha.below
              have c5 := (HAb.out.cell (p := ⟨wr.heap.size, 1, none⟩) hwm).trans e1
              have HR5 := hid (HRM.out.below HAb.out)
              have HAr := hid ha.rd
              have hmw : wa.heap.size ≤ wm.heap.size := HBM.out.size
              rcases ha with ⟨_, hl0, hv0, _⟩ | ⟨_, hl0, g, hv0, hg, hge, _⟩
              · subst hv0
                subst hl0
                go_wp2_with fail
                refine (refget_all ⟨w1.heap.size, fun g => w1.heap.size ≤ g ∧ (Value.slice ad2 M cp2).ownBlock ≠ some g⟩ rb gd cd rv s o.n w5 HR5.out).mono ?_
                rintro e w6 ⟨vb, rfl, hb⟩
                rw [← HLq.out, ← HEq.out] at hb
                rw [← HEq.out]
                have HBb := hid hb.below
                have HBr := hid hb.rd
                obtain ⟨ba, bc, evb⟩ := rd_slice hb.rd
                subst evb
                clear hb
                have H6 := hid ((HM.out.below HAb.out).below HBb.out)
                have R6 := hid (HR5.out.below HBb.out)
                have Q6 := hid ((Qm.out.below HAb.out).below HBb.out)
                have hsw5 := HAb.out.size
                have hsw6 := HBb.out.size
                have B6 := hid ((HBM.out.trans (HAb.out.mono hmw)).trans (HBb.out.mono (by omega)))
                go_wp2_with fail
                refine (same_any _ _ [] [] w6 (HAr.out.below HBb.out) HBr.out).mono ?_
                rintro e w' ⟨rfl, rfl⟩
                rw [show (([] : List UInt8) == []) = true by simp]
                go_wp2_with fail
                refine wp_loop_rounds 1 ?_
                rw [rounds_succ]
                go_wp2_with fail
                go_meet
                case rel => exact ⟨rfl, Q6.out, s, wv, rv, H6.out, R6.out, HF.out, by have := HST.out; omega, B6.out⟩
              · subst hv0
                have HL0 := hid hl0
                have HG := hid hg
                have hgs : g < w5.heap.size := (Array.getElem?_eq_some_iff.1 hg).1
                have hge' := hge
                clear hg hl0
                rw [show (128 : Nat) = l.length from HL0.out.symm] at HAr
                rw [HL0.out] at HAr
                go_wp2_with fail
                refine (refget_all ⟨w1.heap.size, fun g => w1.heap.size ≤ g ∧ (Value.slice ad2 M cp2).ownBlock ≠ some g⟩ rb gd cd rv s o.n w5 HR5.out).mono ?_
                rintro e w6 ⟨vb, rfl, hb⟩
                rw [← HLq.out, ← HEq.out] at hb
                rw [← HEq.out]
                have HBb := hid hb.below
                have HBr := hid hb.rd
                obtain ⟨ba, bc, evb⟩ := rd_slice hb.rd
                subst evb
                clear hb
                have H6 := hid ((HM.out.below HAb.out).below HBb.out)
                have R6 := hid (HR5.out.below HBb.out)
                have Q6 := hid ((Qm.out.below HAb.out).below HBb.out)
                have hsw5 := HAb.out.size
                have hsw6 := HBb.out.size
                have B6 := hid ((HBM.out.trans (HAb.out.mono hmw)).trans (HBb.out.mono (by omega)))
                go_wp2_with fail
                refine (same_any _ _ l l w6 (HAr.out.below HBb.out) HBr.out).mono ?_
                rintro e w' ⟨rfl, rfl⟩
                rw [show ((l : List UInt8) == l) = true by simp]
                go_wp2_with fail
                have HG6 := hid ((HBb.out.block g hgs).trans HG.out)
                go_loopw [115] (fun j' wi => ∃ (m : Nat) (l' : List UInt8), m ≤ 128 ∧ j' = .int .i64 m ∧ l'.length = 128 ∧ wi.heap[g]? = some (.cells (l'.map bv).toArray 103 (0, 0)) ∧ Keeps (fun q => q = g) w6 wi) (fun j' _ => 128 - (intOf j').toNat)
                case atStart => exact ⟨0, l, Nat.zero_le _, rfl, HL0.out, HG6.out, Keeps.refl _ _⟩
                case round =>
                  obtain ⟨m, l', hm, rfl, hl', hgi, hki⟩ := hrel
                  have HGI := hid hgi
                  have HKI := hid hki
                  have HL' := hid hl'
                  clear hgi hki hl'
                  by_cases hml : m < 128
                  · obtain ⟨x, hx⟩ : ∃ x, x = l'.getD m 0 := ⟨_, rfl⟩
                    have i1 : wr.cell? ⟨g, m, none⟩ = some (.int .u8 (x.toNat : Int)) := by
                      rw [cell_of_row _ _ _ _ _ _ HGI.out, hx]
                      simp [bv, List.getD_eq_getElem?_getD, List.getElem?_eq_getElem (show m < l'.length by have := HL'.out; omega)]
                    have i2 : wr.frozen? ⟨g, m, none⟩ = false := frozen_of_row _ _ _ _ _ HGI.out
                    have HST2 := hid (show (wr.setCell ⟨g, m, none⟩ (.int .u8 (Go.bits .xor .u8 (x.toNat : Int) 1))).heap[g]? = some (.cells ((l'.set m (x ^^^ 1)).map bv).toArray 103 (0, 0)) by
                      rw [heap_setCell_same _ _ _ _ _ _ HGI.out, xor1, List.map_set]
                      simp [bv])
                    have hmi : (m : Int) < 128 := by omega
                    clear hx
                    go_wp2_with fail
                    go_roundw
                    case rel => exact ⟨m + 1, _, by omega, by go_num, by rw [List.length_set]; exact HL'.out, HST2.out, HKI.out.trans (keeps_set _ _ _ _)⟩
                    case measure => simp [intOf]; omega
                  · obtain rfl : m = 128 := by omega
                    have hsz := HM.out.size
                    have hap := HRM.out.apart
                    have h8 : SlabAt wr wa.heap.size b bn bd wv s := H6.out.keeps HKI.out (fun e => by omega) (fun e => by omega) (fun e => by omega) (fun q hq e => by have := (HM.out.2.2.2.1.lt q hq).2; omega)
                    have r8 : RefAt wr ⟨w1.heap.size, fun g => w1.heap.size ≤ g ∧ (Value.slice ad2 M cp2).ownBlock ≠ some g⟩ rb gd cd rv s := R6.out.keeps HKI.out (fun e => by omega) (fun e => by omega) (fun q hq e => by
                      obtain ⟨_, _, ⟨PW, hp⟩, _⟩ := HRM.out
                      have := (World.ownsRow.lt hp.1 q hq).2
                      omega) (fun q cs _ hq e => by
                      subst e; rw [HG6.out] at hq; simp only [Option.some.injEq, Obj.cells.injEq] at hq; exact absurd hq.2.1 (by decide))
                    have q8 : Own wr wo.heap.size (.slice ad2 M cp2) o.t := Q6.out.keeps HKI.out (fun q hq e => by have := (Qm.out.lt q hq).2; omega)
                    have b8 : Below wa.heap.size wa wr := B6.out.trans (HKI.out.below (by omega) (fun q e => by omega))
                    have H8 := hid h8
                    have R8 := hid r8
                    have Q8 := hid q8
                    have B8 := hid b8
                    clear h8 r8 q8 b8 hap hsz
                    go_wp2_with fail
                    go_meet
                    case rel => exact ⟨rfl, Q8.out, s, wv, rv, H8.out, R8.out, HF.out, by have := HST.out; omega, B8.out⟩
          · as_aux_lemma =>
              subst hdq
              go_wp2_with fail
              refine (flush_all wa.heap.size b bn bd wv s wm HM.out hst1).mono ?_
              rintro e w5 ⟨wv5, rfl, h5, hk5⟩
              have R5 := hid (RefAt.keepsSlab HM.out HRM.out hk5)
              have Q5 := hid (Own.keepsSlab HM.out Qm.out hk5)
              have B5 := hid (HBM.out.trans (HM.out.keep hk5))
              have HP5 := hid (show ∀ g, w5.heap.size ≤ g → w1.heap.size ≤ g ∧ (Value.slice ad2 M cp2).ownBlock ≠ some g from fun g hg => ⟨by have h9 : w1.heap.size ≤ w5.heap.size := R5.out.low.2.2; omega, fun e => by have := (Q5.out.lt g e).2; omega⟩)
              go_wp2_with fail
              refine (refflush_all ⟨w1.heap.size, fun g => w1.heap.size ≤ g ∧ (Value.slice ad2 M cp2).ownBlock ≠ some g⟩ rb gd cd rv s w5 R5.out HF.out hst1 HP5.out).mono ?_
              rintro e w6 ⟨rv6, rfl, h6, k6⟩
              have H6 := hid (SlabAt.keepsRef h5 R5.out k6)
              have Q6 := hid (Own.keepsRef R5.out Q5.out k6)
              have B6 := hid (B5.out.trans ((RefAt.keep R5.out k6).mono h1a))
              go_wp2_with fail
              go_meet
              case rel => exact ⟨rfl, Q6.out, s.flushed.1, wv5, rv6, H6.out, h6, Sl.flushed_fits HF.out HM.out.okay, by have := HST.out; have := s.flushed_steps; omega, B6.out⟩
          · as_aux_lemma =>
              subst hdq
              go_wp2_with fail
              have HMd := hid (show SlabAt wm.drew wa.heap.size b bn bd wv s from HM.out)
              have HRd := hid (show RefAt wm.drew ⟨w1.heap.size, fun g => w1.heap.size ≤ g ∧ (Value.slice ad2 M cp2).ownBlock ≠ some g⟩ rb gd cd rv s from HRM.out)
              have HQd := hid (show Own wm.drew wo.heap.size (.slice ad2 M cp2) o.t from Qm.out)
              go_region_held3 (fun w' => w'.cell? ⟨wr.heap.size, 1, none⟩ = some (.int .i64 o.n))
                (first
                  | assumption
                  | exact (hk5.cell (p := ⟨wr.heap.size, 1, none⟩) hwm HNS.out).trans (by assumption)
                  | exact (k6.cell (p := ⟨wr.heap.size, 1, none⟩) hw5 HNR.out.1).trans (by assumption)
                  | exact (k6.cell (p := ⟨wr.heap.size, 1, none⟩) hw5 HNR2.out).trans (by assumption)
                  | fail)
                (first | (go_at_call 24; refine (arm_all wa.heap.size b bn bd wv s o.n _ HMd.out (by omega)).mono ?_; rintro e w5 ⟨rfl, h5, hk5⟩; have R5 := hid (RefAt.keepsSlab HMd.out HRd.out hk5); have Q5 := hid (Own.keepsSlab HMd.out HQd.out hk5); have B5 := hid ((HBM.out.drew).trans (HMd.out.keep hk5)); have P5 := hid (HPA.out.below B5.out); have c5 := (hk5.cell (p := ⟨wr.heap.size, 1, none⟩) hwm HNS.out).trans e1; have hw5 := Nat.lt_of_lt_of_le hwm hk5.size; have HP5 := hid (show ∀ g, w5.heap.size ≤ g → w1.heap.size ≤ g ∧ (Value.slice ad2 M cp2).ownBlock ≠ some g from fun g hg => ⟨by have h9 : w1.heap.size ≤ w5.heap.size := R5.out.low.2.2; omega, fun e => by have := (Q5.out.lt g e).2; omega⟩); dsimp only) | (go_at_call 25; refine (refarm_all ⟨w1.heap.size, fun g => w1.heap.size ≤ g ∧ (Value.slice ad2 M cp2).ownBlock ≠ some g⟩ rb gd cd rv s o.n _ R5.out (by omega)).mono ?_; rintro e w6 ⟨rfl, h6, k6⟩; have H6 := hid (SlabAt.keepsRef h5 R5.out (k6.mono (fun _ _ e => .inl e))); have Q6 := hid (Own.keepsRef R5.out Q5.out (k6.mono (fun _ _ e => .inl e))); have B6 := hid (B5.out.trans ((RefAt.keep R5.out (k6.mono (fun _ _ e => .inl e))).mono h1a)); have c6 := (k6.cell (p := ⟨wr.heap.size, 1, none⟩) hw5 HNR.out.1).trans c5; dsimp only) | fail)
              go_wp2_with fail
              go_meet
              case rel => exact ⟨rfl, Q6.out, (s.arm o.n).1, wv, rv, H6.out, h6, Sl.arm_fits HF.out _, by have := HST.out; have := s.arm_steps o.n; rw [this.1, this.2]; omega, B6.out⟩
          · as_aux_lemma =>
              subst hdq
              go_wp2_with fail
              have HMd := hid (show SlabAt wm.drew wa.heap.size b bn bd wv s from HM.out)
              have HRd := hid (show RefAt wm.drew ⟨w1.heap.size, fun g => w1.heap.size ≤ g ∧ (Value.slice ad2 M cp2).ownBlock ≠ some g⟩ rb gd cd rv s from HRM.out)
              have HQd := hid (show Own wm.drew wo.heap.size (.slice ad2 M cp2) o.t from Qm.out)
              go_region_held3 (fun w' => w'.cell? ⟨wr.heap.size, 1, none⟩ = some (.int .i64 o.n))
                (first
                  | assumption
                  | exact (hk5.cell (p := ⟨wr.heap.size, 1, none⟩) hwm HNS.out).trans (by assumption)
                  | exact (k6.cell (p := ⟨wr.heap.size, 1, none⟩) hw5 HNR.out.1).trans (by assumption)
                  | exact (k6.cell (p := ⟨wr.heap.size, 1, none⟩) hw5 HNR2.out).trans (by assumption)
                  | fail)
                (first | (go_at_call 26; refine (crash_all wa.heap.size b bn bd wv s _ o.t o.n _ HMd.out HQd.out.rd HQB.out).mono ?_; rintro e w5 ⟨rfl, h5, hk5⟩; have R5 := hid (RefAt.keepsSlab HMd.out HRd.out hk5); have Q5 := hid (Own.keepsSlab HMd.out HQd.out hk5); have B5 := hid ((HBM.out.drew).trans (HMd.out.keep hk5)); have P5 := hid (HPA.out.below B5.out); have c5 := (hk5.cell (p := ⟨wr.heap.size, 1, none⟩) hwm HNS.out).trans e1; have hw5 := Nat.lt_of_lt_of_le hwm hk5.size; have HP5 := hid (show ∀ g, w5.heap.size ≤ g → w1.heap.size ≤ g ∧ (Value.slice ad2 M cp2).ownBlock ≠ some g from fun g hg => ⟨by have h9 : w1.heap.size ≤ w5.heap.size := R5.out.low.2.2; omega, fun e => by have := (Q5.out.lt g e).2; omega⟩); dsimp only) | (go_at_call 27; refine (refcrash_any ⟨w1.heap.size, fun g => w1.heap.size ≤ g ∧ (Value.slice ad2 M cp2).ownBlock ≠ some g⟩ rb gd cd rv s _ o.t o.n _ R5.out P5.out HPG.out HP5.out).mono ?_; rintro e w6 ⟨rfl, h6, k6⟩; have H6 := hid (SlabAt.keepsRef h5 R5.out k6); have Q6 := hid (Own.keepsRef R5.out Q5.out k6); have B6 := hid (B5.out.trans ((RefAt.keep R5.out k6).mono h1a)); have c6 := (k6.cell (p := ⟨wr.heap.size, 1, none⟩) hw5 HNR2.out).trans c5; dsimp only) | fail)
              go_wp2_with fail
              go_meet
              case rel => exact ⟨rfl, Q6.out, (s.crash o.t o.n), _, _, H6.out, h6, Sl.crash_fits HF.out HMd.out.okay _ _, by have := HST.out; simp [Sl.crash]; omega, B6.out⟩
          · as_aux_lemma =>
              have hz0 : ((dd : Int) == 0) = false := by rw [beq_eq_false_iff_ne]; omega
              have hz1 : ((dd : Int) == 1) = false := by rw [beq_eq_false_iff_ne]; omega
              have hz2 : ((dd : Int) == 2) = false := by rw [beq_eq_false_iff_ne]; omega
              have hz3 : ((dd : Int) == 3) = false := by rw [beq_eq_false_iff_ne]; omega
              have hz4 : ((dd : Int) == 4) = false := by rw [beq_eq_false_iff_ne]; omega
              have hz5 : ((dd : Int) == 5) = false := by rw [beq_eq_false_iff_ne]; omega
              have hz6 : ((dd : Int) == 6) = false := by rw [beq_eq_false_iff_ne]; omega
              go_wp2_with fail
              go_meet
              case rel => exact ⟨rfl, Qm.out, s, wv, rv, HM.out, HRM.out, HF.out, by have := HST.out; omega, HBM.out⟩
        case rest =>
          as_aux_lemma =>
            obtain ⟨rfl, hqc, s', wv', rv', hc, hrc, hfc, hsc, hbc⟩ := hcut
            have HQC := hid hqc
            have HC := hid hc
            have HRC := hid hrc
            have HFC := hid hfc
            have HSC := hid hsc
            have HBC := hid hbc
            have HPC := hid (HPA.out.below hbc)
            clear hqc hc hrc hfc hsc hbc
            go_wp2_with fail
            refine (same_any _ _ o.t o.t _ (HQC.out.rd) HPC.out).mono ?_
            rintro e w' ⟨rfl, rfl⟩
            rw [show (o.t == o.t) = true by simp]
            go_wp2_with fail
            go_loopw [166] (fun j' wi => ∃ (m : Nat) (l' : List UInt8), m ≤ M ∧ j' = .int .i64 m ∧ l'.length = M ∧ Own wi wo.heap.size (.slice ad2 M cp2) l' ∧ Keeps (fun j => (Value.slice ad2 M cp2).ownBlock = some j) wc wi) (fun j' _ => M - (intOf j').toNat)
            case atStart => exact ⟨0, o.t, Nat.zero_le _, rfl, HLEN.out, HQC.out, Keeps.refl _ _⟩
            case round =>
              obtain ⟨m, l', hm, rfl, hl', hown, hki⟩ := hrel
              have HOI := hid hown
              have HKI := hid hki
              have HL' := hid hl'
              clear hown hki hl'
              by_cases hml : m < M
              · obtain ⟨gg, cc, egg⟩ := own_head HOI.out (by have := HL'.out; omega)
                simp only [Value.slice.injEq] at egg
                obtain ⟨eg1, eg2, eg3⟩ := egg
                clear eg2
                subst eg1 eg3
                have i1 := HOI.out.cell m (by have := HL'.out; omega)
                have i2 := HOI.out.frozen m
                obtain ⟨i30, i31, i32⟩ := HOI.out.caps
                obtain ⟨x, hx⟩ : ∃ x, x = l'.getD m 0 := ⟨_, rfl⟩
                rw [← hx] at i1
                unfold bv at i1
                have HST2 := hid (HOI.out.stored m (x ^^^ 1) _ (xor1 x))
                clear hx i30
                go_wp2_with fail
                go_roundw
                case rel => exact ⟨m + 1, _, by omega, by go_num, by rw [List.length_set]; exact HL'.out, HST2.out, HKI.out.trans ((keeps_set _ gg _ _).mono (fun q _ e => by subst e; rfl))⟩
                case measure => simp [intOf]; omega
              · obtain rfl : m = M := by omega
                obtain ⟨wz, hwz⟩ : ∃ wz, wz = wr := ⟨_, rfl⟩
                have H7 := hid (show SlabAt wz wa.heap.size b bn bd wv' s' by rw [hwz]; exact SlabAt.keepsOwn HC.out HQC.out HKI.out)
                have R7 := hid (show RefAt wz ⟨w1.heap.size, fun g => w1.heap.size ≤ g⟩ rb gd cd rv' s' by rw [hwz]; exact (RefAt.keepsOwn HRC.out HQC.out HKI.out).weak (fun g h => h.1))
                have B7 := hid (show Below wa.heap.size wa wz by rw [hwz]; exact HBC.out.trans (HKI.out.below HBC.out.size (fun q hq => by have := (HQC.out.lt q hq).1; have := HBo.out.size; omega)))
                rw [← hwz]
                obtain ⟨ra, rc, erv⟩ := R7.out.way_len
                subst erv
                obtain ⟨z0, z1, z2, z3, z4, _⟩ := R7.out.cells
                have hnb : s'.n ≤ 4096 := H7.out.okay.2.1
                have H7d := hid (show SlabAt wz.drew wa.heap.size b bn bd wv' s' from H7.out)
                clear HOI hwz
                go_wp2_with fail
                go_region_held3 (fun w' => w'.cell? ⟨rb, 0, none⟩ = some (.slice (some ⟨gd, 0, none⟩) s'.n cd) ∧ w'.cell? ⟨rb, 1, none⟩ = some (.slice ra s'.way.length rc) ∧ w'.cell? ⟨rb, 2, none⟩ = some (.bool s'.off) ∧ w'.cell? ⟨rb, 4, none⟩ = some (.int .i64 (s'.steps : Int)))
                  (first | (refine ⟨?_, ?_, ?_, ?_⟩ <;> assumption) | fail)
                  (first | (go_at_call 28; refine (len_any wa.heap.size b bn bd wv' s' _ H7d.out).mono ?_; rintro e w' ⟨rfl, rfl⟩; dsimp only) | (go_at_call 29; refine (on_any wa.heap.size b bn bd wv' s' _ H7d.out).mono ?_; rintro e w' ⟨rfl, rfl⟩; dsimp only) | (go_at_call 30; refine (steps_any wa.heap.size b bn bd wv' s' _ H7d.out).mono ?_; rintro e w' ⟨rfl, rfl⟩; dsimp only) | (go_at_call 31; refine (way_any wa.heap.size b bn bd wv' s' _ H7d.out).mono ?_; rintro e w' ⟨rfl, rfl⟩; dsimp only) | fail)
                go_wp2_with fail
                go_loopw [236] (fun j' wi => ∃ m : Nat, m ≤ s'.n ∧ j' = .int .i64 m ∧ Below wz.heap.size wz wi) (fun j' _ => s'.n - (intOf j').toNat)
                case atStart => exact ⟨0, Nat.zero_le _, rfl, (Below.refl _ wz).drew⟩
                case round =>
                  obtain ⟨m, hm, rfl, hbi⟩ := hrel
                  have HBI := hid hbi
                  have H9 := hid (H7.out.below hbi)
                  have R9 := hid (R7.out.below hbi)
                  have hsz := hbi.size
                  clear hbi
                  by_cases hml : m < s'.n
                  · go_wp2_with fail
                    refine (read_all wa.heap.size b bn bd wv' s' (m : Int) wr H9.out).mono ?_
                    rintro e w5 ⟨va, rfl, ha⟩
                    rw [read_got s' HFC.out (m : Int)] at ha ⊢
                    have HAb := hid ha.below
                    have HAr := hid ha.rd
                    have hs5 := ha.below.size
                    have HR5 := hid (R9.out.below ha.below)
                    obtain ⟨aa, ac, eva⟩ := rd_slice ha.rd
                    subst eva
                    clear ha
                    go_wp2_with fail
                    refine (refget_all ⟨w1.heap.size, fun g => w1.heap.size ≤ g⟩ rb gd cd _ s' (m : Int) w5 HR5.out).mono ?_
                    rintro e w6 ⟨vb, rfl, hb⟩
                    have HBb := hid hb.below
                    have HBr := hid hb.rd
                    obtain ⟨ba, bc, evb⟩ := rd_slice hb.rd
                    subst evb
                    clear hb
                    go_wp2_with fail
                    refine (same_any _ _ (s'.got (m : Int)).1 (s'.got (m : Int)).1 w6 (HAr.out.below HBb.out) HBr.out).mono ?_
                    rintro e w' ⟨rfl, rfl⟩
                    rw [show ((s'.got (m : Int)).1 == (s'.got (m : Int)).1) = true by simp]
                    go_wp2_with fail
                    go_roundw
                    case rel => exact ⟨m + 1, by omega, by go_num, (HBI.out.trans (HAb.out.mono hsz)).trans (HBb.out.mono (by omega))⟩
                    case measure => simp [intOf]; omega
                  · obtain rfl : m = s'.n := by omega
                    have B9 := hid (B7.out.trans (HBI.out.mono B7.out.size))
                    go_wp2_with fail
                    go_roundw
                    case rel => exact ⟨k + 1, s', wv', _, by omega, by omega, by go_num, H9.out, R9.out, HFC.out, HSC.out, B9.out⟩
                    case measure => simp [intOf]; omega
      · have hge : (60 : Int) ≤ (k : Int) := by omega
        go_wp2
        go_ret
        exact ⟨rfl, HBw.out.alloc HBw.out.size _⟩
    · obtain rfl : k = L2 := by omega
      go_wp2
      go_ret
      exact ⟨rfl, HBw.out⟩

end Go.Proofs.Ytbchegbamcigkaa
