/-
  RowsPlays: every script of jobs that are placed, put and removed, of nodes that go down and come up, has the document's answers; a nil matrix', too; a copy goes its own way.
  (The frame behind the walk is the guide's shell, at these parameters.)
-/
import Derived.Test.YtdongghjchnpbaaRows
import Derived.WalkKit
import Derived.Test.YtdongghjchnpbaaRxMM
import Derived.Test.YtdongghjchnpbaaRowY
import Derived.ProofKit
import Derived.Deep.Cut
import Derived.Deep.CutRange
import Derived.Deep.CutBlock
import Derived.Deep.Grids
import Derived.OpenShut
import Derived.ShutString
import Derived.ChangeOld
import Derived.Below
namespace Go.Proofs.Ytdongghjchnpbaa.rowsPlays
open Go.ChangeShapes Go.WideShapes Go.ChangeAt Go.RowKit
open Go.ChangeMaps (open_string shut_string)
set_option linter.unusedVariables false

theorem own : ownKnob Try.prog.godebug = none := by kernel_rfl
theorem laidOut : laidOutB Try.prog = true := by kernel_rfl

set_option linter.unusedSimpArgs false
open Go.RowKit Go.Shelf
theorem keepsS12 {w w' : World} {b : Nat} {v : Value} {xs : List Value} (h : RdV w v xs) (ho : Off v b) (hk : Keeps (fun i => i = b) w w') : RdV w' v xs := by
  rcases h with h | ⟨g, off, cap, rfl, h1, h2, h3, h4⟩
  · exact .inl h
  · have hb := ho g off _ _ rfl
    exact .inr ⟨g, off, cap, rfl, h1, h2, by have := hk.size; omega, fun j x hj => (hk.cell (p := ⟨g, off + j, none⟩) h3 hb).trans (h4 j x hj)⟩

set_option maxRecDepth 100000 in
set_option maxHeartbeats 16000000 in
theorem walk (a0 : Int) (a1 : Int) (a2 : Option Addr) (len2 cap2 : Nat) (a3 : Int) (w : World) (w0 : (Lit.int .i64 a0).wf = true) (w1 : (Lit.int .i64 a1).wf = true) (w2 : IsOps12 w a2 len2 cap2) (w3 : (Lit.int .i64 a3).wf = true) :
    Calls Try.prog 3 #[.int .i64 a0, .int .i64 a1, .slice a2 len2 cap2, .int .i64 a3] w fun e w' => e = .returned (.bool true) ∧ Below w.heap.size w w' := by
  obtain ⟨hlc, hcm⟩ := w2.bounds
  have HOP := hid w2
  clear w0 w1 w2 w3
  go_enter Try.func3, Try.ntmps3
  go_wp2_with fail
  refine (awake12_any w).mono ?_
  rintro e x1 ⟨rfl, hb1⟩
  have HB1 := hid hb1
  clear hb1
  by_cases hrn : 1 ≤ a0 ∧ a0 ≤ 8 ∧ 1 ≤ a1 ∧ a1 ≤ 16
  · obtain ⟨h1, h2, h3, h4⟩ := hrn
    obtain ⟨r, rfl⟩ := Int.eq_ofNat_of_zero_le (show 0 ≤ a0 by omega)
    obtain ⟨n, rfl⟩ := Int.eq_ofNat_of_zero_le (show 0 ≤ a1 by omega)
    have HNY := hid (new_yes x1 r n (by omega) (by omega) (by omega) (by omega))
    have HRY := hid (fun W => rnew_yes W r n (by omega) (by omega) (by omega) (by omega))
    clear h1 h2 h3 h4
    go_upto_region 9 with (first
      | (go_at_call 10; (with_reducible refine HNY.out.mono ?_); rintro e x2 ⟨rfl, hm2, hb2⟩; have HM2 := hid hm2; have HB2 := hid hb2; have HRX := hid (HRY.out x2); clear hm2 hb2)
      | (go_at_call 11; (with_reducible refine HRX.out.mono ?_); rintro e x3 ⟨G, rfl, hx3, hb3⟩; have HX3 := hid hx3; have HB3 := hid hb3; have HM3 := hid (HM2.out.below hb3 HM2.out.lt); have HC1 := hid (copy_any x3 x1.heap.size (mx0 r n) HM3.out); clear hx3 hb3)
      | (go_at_call 12; (with_reducible refine HC1.out.mono ?_); rintro e x4 ⟨rfl, hm4, hb4⟩; have HM4 := hid hm4; have HB4 := hid hb4; have HC2 := hid (rcopy_any x4 x2.heap.size G (mx0 r n) (HX3.out.below hb4 (Nat.le_refl _))); clear hm4 hb4)
      | (go_at_call 13; (with_reducible refine HC2.out.mono ?_); rintro e x5 ⟨H0, rfl, hx5, hb5⟩; have HX5 := hid hx5; have HB5 := hid hb5; clear hx5 hb5)
      | fail)
    have HFS := hid (show Four x5 w.heap.size x1.heap.size x2.heap.size G (mx0 r n) x3.heap.size x4.heap.size H0 (mx0 r n) from Four.fresh HM3.out HX3.out (One.mx0 r n) HB1.out.size HM2.out.lt HM4.out HB4.out HX5.out HB5.out)
    have HBS := hid (show Below w.heap.size w x5 from HB1.out.trans ((HB2.out.trans ((HB3.out.trans ((HB4.out.trans (HB5.out.mono HB4.out.size)).mono HB3.out.size)).mono HB2.out.size)).mono HB1.out.size))
    obtain ⟨b, hb⟩ : ∃ b, b = x1.heap.size := ⟨_, rfl⟩
    obtain ⟨lo, hlo⟩ : ∃ l, l = x2.heap.size := ⟨_, rfl⟩
    rw [← hb, ← hlo] at HFS
    rw [← hb]
    clear hb hlo HM2 HB2 HRX HX3 HB3 HM3 HC1 HM4 HB4 HC2 HX5 HB5
    go_loopw [13, 14, 56] (fun wv ov i wr => ∃ (k : Nat) (m : Mx) (b2 l2 : Nat) (H : Geo) (m2 : Mx), wv = .pointer (some ⟨b2, 0, none⟩) ∧ ov = .pointer (some ⟨H.x, 0, none⟩) ∧ i = .int .i64 k ∧ k ≤ len2 ∧ k ≤ 40 ∧ Four wr w.heap.size b lo G m b2 l2 H m2 ∧ Below w.heap.size w wr) (fun _ _ i _ => len2 - (intOf i).toNat)
    case atStart => exact ⟨0, mx0 r n, _, _, H0, mx0 r n, rfl, rfl, rfl, Nat.zero_le _, Nat.zero_le _, HFS.out, HBS.out⟩
    case round =>
      obtain ⟨k, m, b2, l2, H, m2, rfl, rfl, rfl, hk, hk1, hF, hB⟩ := hrel
      have HB := hid hB
      have HF := hid hF
      clear hF
      by_cases hlt : k < len2
      · obtain ⟨gb, off, d, j, kk, A, L, C, t, on, rfl, z0, z1, z2, z3, z4, hd, hj, hkk, hct⟩ := HOP.out.at hB hlt
        have HCT := hid hct
        have HKL := hid hlt
        have HJ := hid hj
        have hki : (k : Int) < (len2 : Int) := by omega
        obtain ⟨y1, hy1⟩ : ∃ y, y = wr.alloc (.cells #[.int .u8 (d : Int), .int .u32 (j : Int), .int .i64 kk, .slice A L C, .bool on] 36) := ⟨_, rfl⟩
        have hby : Below wr.heap.size wr y1 := by rw [hy1]; exact (Below.refl _ _).alloc (Nat.le_refl _) _
        have hbx : y1.heap[wr.heap.size]? = some (.cells #[.int .u8 (d : Int), .int .u32 (j : Int), .int .i64 kk, .slice A L C, .bool on] 36 (0, 0)) := by rw [hy1]; exact heap_alloc_new wr _
        obtain ⟨pb, hpb⟩ : ∃ p, p = wr.heap.size := ⟨_, rfl⟩
        rw [← hpb] at hbx
        have HBX := hid hbx
        have HBY1 := hid (hB.trans (hby.mono hB.size))
        have HCT1 := hid (hct.below hby)
        have HPB := hid (show b < pb ∧ (∀ q, G.all m.r q → q < pb) from by rw [hpb]; exact ⟨HF.out.at_.lt, HF.out.x.lt⟩)
        have HF1 := hid (HF.out.keep hby)
        have o0 : y1.cell? ⟨pb, 0, none⟩ = some (.int .u8 (d : Int)) := (cell_of_row _ _ _ _ _ _ hbx).trans rfl
        have o1 : y1.cell? ⟨pb, 1, none⟩ = some (.int .u32 (j : Int)) := (cell_of_row _ _ _ _ _ _ hbx).trans rfl
        have o2 : y1.cell? ⟨pb, 2, none⟩ = some (.int .i64 kk) := (cell_of_row _ _ _ _ _ _ hbx).trans rfl
        have o3 : y1.cell? ⟨pb, 3, none⟩ = some (.slice A L C) := (cell_of_row _ _ _ _ _ _ hbx).trans rfl
        have o4 : y1.cell? ⟨pb, 4, none⟩ = some (.bool on) := (cell_of_row _ _ _ _ _ _ hbx).trans rfl
        clear hby hbx hB hlt hct hj
        go_upto_region 11 with (fail)
        rw [← hy1, ← hpb]
        clear hy1 hpb z0 z1 z2 z3 z4
        by_cases h40 : k = 40
        · have d1 : decide ((k : Int) ≥ 40) = true := decide_eq_true (by omega)
          have d2 : decide ((40 : Int) ≤ (k : Int)) = true := decide_eq_true (by omega)
          clear h40 hk1 hk
          have HAL := hid (alike_any y1 b2 l2 H m2 a3 HF1.out.at2 HF1.out.x2 HF1.out.o2)
          go_wp2_with (first
            | (go_at_call 23; (with_reducible refine HAL.out.mono ?_); rintro e we ⟨rfl, hbe⟩; have HBE := hid hbe; clear hbe)
            | fail)
          go_ret
          exact ⟨rfl, HBY1.out.trans (HBE.out.mono HBY1.out.size)⟩
        · have d1 : decide ((k : Int) ≥ 40) = false := decide_eq_false (by omega)
          have d2 : decide ((40 : Int) ≤ (k : Int)) = false := decide_eq_false (by omega)
          have HK1 := hid (show k < 40 by omega)
          have hk40 : k < 40 := by omega
          clear h40 hk1 hk
          have hlen := HCT1.out.len
          have hmin := HCT1.out.min
          have hl1 := HCT1.out.l1
          have hl2 := HCT1.out.l2
          have hl3 := HCT1.out.l3
          have hl4 := HCT1.out.l4
          have hbA0 : Below y1.heap.size y1 (y1.alloc (.cells #[] 3)) := (Below.refl _ y1).alloc (Nat.le_refl _) _
          have HSRC := hid (HCT1.out.below hbA0).src
          have HM0 := hid (show (y1.alloc (.cells #[] 3)).ownsRow y1.heap.size 3 1 (.slice (some ⟨y1.heap.size, 0, none⟩) 0 0) 0 [] from World.ownsRow_made y1 (e := 3) (size := 1) #[] 0 (base := y1.heap.size) (Nat.le_refl _) (Nat.zero_le _) rfl)
          have e3 : (y1.alloc (.cells #[] 3)).cell? ⟨pb, 3, none⟩ = some (.slice A L C) := (hbA0.cell (p := ⟨pb, 3, none⟩) (Array.getElem?_eq_some_iff.1 HBX.out).1).trans o3
          obtain ⟨tl, htl⟩ : ∃ n, n = t.length := ⟨_, rfl⟩
          rw [← htl] at hlen hmin hl1 hl3 HSRC
          have HTL := hid htl
          have hmin2 : min (L : Int) 20 = (tl : Int) := by omega
          have hlL : tl ≤ L := by omega
          have HRL := hid (show (t.map fun x => Value.int .i64 x).length = tl * 1 by simp [htl])
          clear htl hbA0
          go_upto_region 13 with (first
            | (at_builtin; (refine appsw (by rfl) 34 3 (.tmp 63) (.tmp 70) rfl y1.heap.size 1 8 _ Try.underlying34 infoIntA rfl (by decide) _ _ 0 tl tl _ _ rfl rfl HM0.out HSRC.out HRL.out (by intro y hy; obtain ⟨z, _, rfl⟩ := List.mem_map.1 hy; rfl) (by omega) (by omega) (by omega) (by simp) ?_); intro adA cpA y2 hoA hgA; rw [List.nil_append] at hoA; have HOA := hid hoA; have HGA := hid hgA; clear hoA hgA)
            | fail)
          have HBA := hid (show Below y1.heap.size y1 y2 from ((Below.refl _ y1).alloc (Nat.le_refl _) (.cells #[] 3)).grown HGA.out (by simp) (fun g hg => (World.ownsRow.lt HM0.out g hg).1))
          have HBX2 := hid ((HBA.out.block pb (Array.getElem?_eq_some_iff.1 HBX.out).1).trans HBX.out)
          have HB2 := hid (HBY1.out.trans (HBA.out.mono HBY1.out.size))
          have HF2 := hid (HF1.out.keep HBA.out)
          have HPB2 := hid (show pb < y2.heap.size from (Array.getElem?_eq_some_iff.1 HBX2.out).1)
          have HBX2D := hid (show y2.drew.heap[pb]? = some (.cells #[.int .u8 (d : Int), .int .u32 (j : Int), .int .i64 kk, .slice A L C, .bool on] 36 (0, 0)) from HBX2.out)
          have HFR := hid (fresh_own HOA.out)
          have HOF := hid (show Off (.slice adA tl cpA) b from fun g o n' c e => by have := HFR.out g o n' c e; have := HF1.out.at_.lt; omega)
          have HOG := hid (show ∀ g o n' c, (.slice adA tl cpA : Value) = .slice (some ⟨g, o, none⟩) n' c → ¬ G.own m.r g from fun g o n' c e h => by have := HFR.out g o n' c e; have := HF1.out.x.lt g (.inr (.inr (.inr h))); omega)
          have HV := hid (show RdV y2 (.slice adA tl cpA) (t.map iw) from RdV.of_own HOA.out)
          clear o0 o1 o2 o3 o4 e3 hmin hmin2 hl1 hl2 hl3 hl4 hlL hlen HGA HSRC HM0 HRL HBX
          have v0 : y2.cell? ⟨pb, 0, none⟩ = some (.int .u8 (d : Int)) := (cell_of_row _ _ _ _ _ _ HBX2.out).trans rfl
          have v1 : y2.cell? ⟨pb, 1, none⟩ = some (.int .u32 (j : Int)) := (cell_of_row _ _ _ _ _ _ HBX2.out).trans rfl
          have v2 : y2.cell? ⟨pb, 2, none⟩ = some (.int .i64 kk) := (cell_of_row _ _ _ _ _ _ HBX2.out).trans rfl
          have v3 : y2.cell? ⟨pb, 3, none⟩ = some (.slice A L C) := (cell_of_row _ _ _ _ _ _ HBX2.out).trans rfl
          have v4 : y2.cell? ⟨pb, 4, none⟩ = some (.bool on) := (cell_of_row _ _ _ _ _ _ HBX2.out).trans rfl
          by_cases hd0 : d = 0
          · as_aux_lemma =>
            subst hd0
            have HPO := hid (place_off y2 b j kk m HF2.out.at_ HJ.out)
            have HPR := hid (fun W (hx : RxAt W lo G m) => rplace_all W lo G j kk m hx HJ.out)
            have HPM := hid (And.intro (pl_r m j kk) (HF2.out.o.pl (j := j) (k := kk) HF2.out.at_.n16))
            generalize m.pl j kk = pr at *
            obtain ⟨q1, q2, q3, mz⟩ := pr
            have HMR := hid (show mz.r = m.r from HPM.out.1)
            have HON := hid (show One mz from HPM.out.2)
            clear HPM
            go_upto_region 33 with (first
              | (go_at_call 14; (with_reducible refine HPO.out.mono ?_); rintro e z1 ⟨⟨v, rfl, hv, hfr⟩, hm1, hk1⟩; have HV := hid hv; have HFR := hid hfr; have HM1 := hid (show MxAt z1 b mz from hm1); have HK := hid hk1; have hbz := (hk1.block pb HPB2.out (by have := HPB.out.1; omega)).trans HBX2.out; have HBZ1 := hid hbz; have p1 : z1.cell? ⟨pb, 1, none⟩ = some (.int .u32 (j : Int)) := (cell_of_row _ _ _ _ _ _ hbz).trans rfl; have p2 : z1.cell? ⟨pb, 2, none⟩ = some (.int .i64 kk) := (cell_of_row _ _ _ _ _ _ hbz).trans rfl; have HP2 := hid (HPR.out z1 (HF2.out.prog hk1)); clear hv hfr hm1 hk1 hbz)
              | (go_at_call 15; (with_reducible refine HP2.out.mono ?_); rintro e z2 ⟨⟨v2, rfl, hv2⟩, hx2, hk2⟩; have HSI := hid (sameints_any z2 v v2 q2 q2 (HV.out.keepsF HFR.out hk2 (fun q hq => HF2.out.x.lt q (.inr (.inr (.inr hq))))) hv2); rw [show decide (q2 = q2) = true by simp] at HSI; have HF3 := hid (HF2.out.step HM1.out HK.out (show RxAt z2 lo G mz from hx2) (hk2.mono fun i _ h => .inr (.inr (.inr h))) HMR.out HON.out (by have := HB2.out.size; omega)); clear hv2 hx2 hk2)
              | (go_at_call 16; (with_reducible refine HSI.out.mono ?_); rintro e z ⟨rfl, hbz⟩; have HFZ := hid (HF3.out.1.keep hbz); have HBZ := hid (HB2.out.trans (HF3.out.2.trans (hbz.mono (by have := HF3.out.2.size; have := HB2.out.size; omega)))); clear hbz)
              | fail)
            have HAL := hid (alike_any z b lo G mz a3 HFZ.out.at_ HFZ.out.x HFZ.out.o)
            by_cases h10 : k = 10
            · subst h10
              go_wp2_with (first
                | (go_at_call 23; (with_reducible refine HAL.out.mono ?_); rintro e z2 ⟨rfl, hbz2⟩; have HBZ2 := hid hbz2; have HF9 := hid (HFZ.out.keep hbz2); have HC1 := hid (copy_any z2 b mz HF9.out.at_); clear hbz2)
                | (go_at_call 12; (with_reducible refine HC1.out.mono ?_); rintro e z3 ⟨rfl, hm3, hb3⟩; have HM3 := hid hm3; have HB3 := hid hb3; have HC2 := hid (rcopy_any z3 lo G mz (HF9.out.x.below hb3 (Nat.le_refl _))); clear hm3 hb3)
                | (go_at_call 13; (with_reducible refine HC2.out.mono ?_); rintro e z4 ⟨H', rfl, hx4, hb4⟩; have HX4 := hid hx4; have HB4 := hid hb4; clear hx4 hb4)
                | fail)
              go_roundw
              case rel => exact ⟨11, mz, z2.heap.size, z3.heap.size, H', mz, rfl, rfl, by go_num, HKL.out, by omega, Four.fresh HF9.out.at_ HF9.out.x HF9.out.o HF9.out.low HF9.out.bl HM3.out HB3.out HX4.out HB4.out, (HBZ.out.trans (HBZ2.out.mono HBZ.out.size)).trans ((HB3.out.trans (HB4.out.mono HB3.out.size)).mono (HBZ.out.trans (HBZ2.out.mono HBZ.out.size)).size)⟩
              case measure => have := HKL.out; simp [intOf]; omega
            · have d10 : ((k : Int) == 10) = false := by simp; omega
              have d11 : decide ((k : Int) = 10) = false := decide_eq_false (by omega)
              have hk40 := HK1.out
              go_wp2_with (first
                | (go_at_call 23; (with_reducible refine HAL.out.mono ?_); rintro e z2 ⟨rfl, hbz2⟩; have HBZ2 := hid hbz2; have HF9 := hid (HFZ.out.keep hbz2); have HC1 := hid (copy_any z2 b mz HF9.out.at_); clear hbz2)
                | fail)
              go_roundw
              case rel => exact ⟨k + 1, mz, b2, l2, H, m2, rfl, rfl, by go_num, HKL.out, by have := HK1.out; omega, HF9.out, HBZ.out.trans (HBZ2.out.mono HBZ.out.size)⟩
              case measure => have := HKL.out; simp [intOf]; omega
          · have hn0 : ((d : Int) == 0) = false := by simp; omega
            by_cases hd1 : d = 1
            · as_aux_lemma =>
              subst hd1
              have HPO := hid (place_off y2 b j kk m HF2.out.at_ HJ.out)
              have HPR := hid (fun W (hx : RxAt W lo G m) => rplace_all W lo G j kk m hx HJ.out)
              have HPM := hid (And.intro (pl_r m j kk) (HF2.out.o.pl (j := j) (k := kk) HF2.out.at_.n16))
              generalize m.pl j kk = pr at *
              obtain ⟨q1, q2, q3, mz⟩ := pr
              have HMR := hid (show mz.r = m.r from HPM.out.1)
              have HON := hid (show One mz from HPM.out.2)
              clear HPM
              go_upto_region 33 with (first
                | (go_at_call 14; (with_reducible refine HPO.out.mono ?_); rintro e z1 ⟨⟨v, rfl, hv, hfr⟩, hm1, hk1⟩; have HV := hid hv; have HFR := hid hfr; have HM1 := hid (show MxAt z1 b mz from hm1); have HK := hid hk1; have hbz := (hk1.block pb HPB2.out (by have := HPB.out.1; omega)).trans HBX2.out; have HBZ1 := hid hbz; have p1 : z1.cell? ⟨pb, 1, none⟩ = some (.int .u32 (j : Int)) := (cell_of_row _ _ _ _ _ _ hbz).trans rfl; have p2 : z1.cell? ⟨pb, 2, none⟩ = some (.int .i64 kk) := (cell_of_row _ _ _ _ _ _ hbz).trans rfl; have HP2 := hid (HPR.out z1 (HF2.out.prog hk1)); clear hv hfr hm1 hk1 hbz)
                | (go_at_call 15; (with_reducible refine HP2.out.mono ?_); rintro e z2 ⟨⟨v2, rfl, hv2⟩, hx2, hk2⟩; have HSI := hid (sameints_any z2 v v2 q2 q2 (HV.out.keepsF HFR.out hk2 (fun q hq => HF2.out.x.lt q (.inr (.inr (.inr hq))))) hv2); rw [show decide (q2 = q2) = true by simp] at HSI; have HF3 := hid (HF2.out.step HM1.out HK.out (show RxAt z2 lo G mz from hx2) (hk2.mono fun i _ h => .inr (.inr (.inr h))) HMR.out HON.out (by have := HB2.out.size; omega)); clear hv2 hx2 hk2)
                | (go_at_call 16; (with_reducible refine HSI.out.mono ?_); rintro e z ⟨rfl, hbz⟩; have HFZ := hid (HF3.out.1.keep hbz); have HBZ := hid (HB2.out.trans (HF3.out.2.trans (hbz.mono (by have := HF3.out.2.size; have := HB2.out.size; omega)))); clear hbz)
                | fail)
              have HAL := hid (alike_any z b lo G mz a3 HFZ.out.at_ HFZ.out.x HFZ.out.o)
              by_cases h10 : k = 10
              · subst h10
                go_wp2_with (first
                  | (go_at_call 23; (with_reducible refine HAL.out.mono ?_); rintro e z2 ⟨rfl, hbz2⟩; have HBZ2 := hid hbz2; have HF9 := hid (HFZ.out.keep hbz2); have HC1 := hid (copy_any z2 b mz HF9.out.at_); clear hbz2)
                  | (go_at_call 12; (with_reducible refine HC1.out.mono ?_); rintro e z3 ⟨rfl, hm3, hb3⟩; have HM3 := hid hm3; have HB3 := hid hb3; have HC2 := hid (rcopy_any z3 lo G mz (HF9.out.x.below hb3 (Nat.le_refl _))); clear hm3 hb3)
                  | (go_at_call 13; (with_reducible refine HC2.out.mono ?_); rintro e z4 ⟨H', rfl, hx4, hb4⟩; have HX4 := hid hx4; have HB4 := hid hb4; clear hx4 hb4)
                  | fail)
                go_roundw
                case rel => exact ⟨11, mz, z2.heap.size, z3.heap.size, H', mz, rfl, rfl, by go_num, HKL.out, by omega, Four.fresh HF9.out.at_ HF9.out.x HF9.out.o HF9.out.low HF9.out.bl HM3.out HB3.out HX4.out HB4.out, (HBZ.out.trans (HBZ2.out.mono HBZ.out.size)).trans ((HB3.out.trans (HB4.out.mono HB3.out.size)).mono (HBZ.out.trans (HBZ2.out.mono HBZ.out.size)).size)⟩
                case measure => have := HKL.out; simp [intOf]; omega
              · have d10 : ((k : Int) == 10) = false := by simp; omega
                have d11 : decide ((k : Int) = 10) = false := decide_eq_false (by omega)
                have hk40 := HK1.out
                go_wp2_with (first
                  | (go_at_call 23; (with_reducible refine HAL.out.mono ?_); rintro e z2 ⟨rfl, hbz2⟩; have HBZ2 := hid hbz2; have HF9 := hid (HFZ.out.keep hbz2); have HC1 := hid (copy_any z2 b mz HF9.out.at_); clear hbz2)
                  | fail)
                go_roundw
                case rel => exact ⟨k + 1, mz, b2, l2, H, m2, rfl, rfl, by go_num, HKL.out, by have := HK1.out; omega, HF9.out, HBZ.out.trans (HBZ2.out.mono HBZ.out.size)⟩
                case measure => have := HKL.out; simp [intOf]; omega
            · have hn1 : ((d : Int) == 1) = false := by simp; omega
              by_cases hd2 : d = 2
              · as_aux_lemma =>
                subst hd2
                have HPO := hid (place_off y2 b j kk m HF2.out.at_ HJ.out)
                have HPR := hid (fun W (hx : RxAt W lo G m) => rplace_all W lo G j kk m hx HJ.out)
                have HPM := hid (And.intro (pl_r m j kk) (HF2.out.o.pl (j := j) (k := kk) HF2.out.at_.n16))
                generalize m.pl j kk = pr at *
                obtain ⟨q1, q2, q3, mz⟩ := pr
                have HMR := hid (show mz.r = m.r from HPM.out.1)
                have HON := hid (show One mz from HPM.out.2)
                clear HPM
                go_upto_region 33 with (first
                  | (go_at_call 14; (with_reducible refine HPO.out.mono ?_); rintro e z1 ⟨⟨v, rfl, hv, hfr⟩, hm1, hk1⟩; have HV := hid hv; have HFR := hid hfr; have HM1 := hid (show MxAt z1 b mz from hm1); have HK := hid hk1; have hbz := (hk1.block pb HPB2.out (by have := HPB.out.1; omega)).trans HBX2.out; have HBZ1 := hid hbz; have p1 : z1.cell? ⟨pb, 1, none⟩ = some (.int .u32 (j : Int)) := (cell_of_row _ _ _ _ _ _ hbz).trans rfl; have p2 : z1.cell? ⟨pb, 2, none⟩ = some (.int .i64 kk) := (cell_of_row _ _ _ _ _ _ hbz).trans rfl; have HP2 := hid (HPR.out z1 (HF2.out.prog hk1)); clear hv hfr hm1 hk1 hbz)
                  | (go_at_call 15; (with_reducible refine HP2.out.mono ?_); rintro e z2 ⟨⟨v2, rfl, hv2⟩, hx2, hk2⟩; have HSI := hid (sameints_any z2 v v2 q2 q2 (HV.out.keepsF HFR.out hk2 (fun q hq => HF2.out.x.lt q (.inr (.inr (.inr hq))))) hv2); rw [show decide (q2 = q2) = true by simp] at HSI; have HF3 := hid (HF2.out.step HM1.out HK.out (show RxAt z2 lo G mz from hx2) (hk2.mono fun i _ h => .inr (.inr (.inr h))) HMR.out HON.out (by have := HB2.out.size; omega)); clear hv2 hx2 hk2)
                  | (go_at_call 16; (with_reducible refine HSI.out.mono ?_); rintro e z ⟨rfl, hbz⟩; have HFZ := hid (HF3.out.1.keep hbz); have HBZ := hid (HB2.out.trans (HF3.out.2.trans (hbz.mono (by have := HF3.out.2.size; have := HB2.out.size; omega)))); clear hbz)
                  | fail)
                have HAL := hid (alike_any z b lo G mz a3 HFZ.out.at_ HFZ.out.x HFZ.out.o)
                by_cases h10 : k = 10
                · subst h10
                  go_wp2_with (first
                    | (go_at_call 23; (with_reducible refine HAL.out.mono ?_); rintro e z2 ⟨rfl, hbz2⟩; have HBZ2 := hid hbz2; have HF9 := hid (HFZ.out.keep hbz2); have HC1 := hid (copy_any z2 b mz HF9.out.at_); clear hbz2)
                    | (go_at_call 12; (with_reducible refine HC1.out.mono ?_); rintro e z3 ⟨rfl, hm3, hb3⟩; have HM3 := hid hm3; have HB3 := hid hb3; have HC2 := hid (rcopy_any z3 lo G mz (HF9.out.x.below hb3 (Nat.le_refl _))); clear hm3 hb3)
                    | (go_at_call 13; (with_reducible refine HC2.out.mono ?_); rintro e z4 ⟨H', rfl, hx4, hb4⟩; have HX4 := hid hx4; have HB4 := hid hb4; clear hx4 hb4)
                    | fail)
                  go_roundw
                  case rel => exact ⟨11, mz, z2.heap.size, z3.heap.size, H', mz, rfl, rfl, by go_num, HKL.out, by omega, Four.fresh HF9.out.at_ HF9.out.x HF9.out.o HF9.out.low HF9.out.bl HM3.out HB3.out HX4.out HB4.out, (HBZ.out.trans (HBZ2.out.mono HBZ.out.size)).trans ((HB3.out.trans (HB4.out.mono HB3.out.size)).mono (HBZ.out.trans (HBZ2.out.mono HBZ.out.size)).size)⟩
                  case measure => have := HKL.out; simp [intOf]; omega
                · have d10 : ((k : Int) == 10) = false := by simp; omega
                  have d11 : decide ((k : Int) = 10) = false := decide_eq_false (by omega)
                  have hk40 := HK1.out
                  go_wp2_with (first
                    | (go_at_call 23; (with_reducible refine HAL.out.mono ?_); rintro e z2 ⟨rfl, hbz2⟩; have HBZ2 := hid hbz2; have HF9 := hid (HFZ.out.keep hbz2); have HC1 := hid (copy_any z2 b mz HF9.out.at_); clear hbz2)
                    | fail)
                  go_roundw
                  case rel => exact ⟨k + 1, mz, b2, l2, H, m2, rfl, rfl, by go_num, HKL.out, by have := HK1.out; omega, HF9.out, HBZ.out.trans (HBZ2.out.mono HBZ.out.size)⟩
                  case measure => have := HKL.out; simp [intOf]; omega
              · have hn2 : ((d : Int) == 2) = false := by simp; omega
                by_cases hd3 : d = 3
                · as_aux_lemma =>
                  subst hd3
                  have HFD := hid (HF2.out.keep (Below.refl _ y2).drew)
                  have HPO := hid (put_all y2.drew b j kk (.slice adA tl cpA) t m HFD.out.at_ (HV.out.all (Below.refl _ y2).drew) HOF.out HJ.out)
                  have HPR := hid (fun W (hx : RxAt W lo G m) (hv : RdV W (.slice adA tl cpA) (t.map iw)) => rput_all W lo G j kk (.slice adA tl cpA) t m hx hv HOG.out HJ.out)
                  have HPM := hid (And.intro (putM_r m j kk t) (HF2.out.o.putM (j := j) (row := kk) (l := t) HF2.out.at_.n16))
                  generalize m.putM j kk t = mz at *
                  generalize m.putE j kk t = pe at *
                  have HMR := hid HPM.out.1
                  have HON := hid HPM.out.2
                  clear HPM
                  go_upto_region 22 with (fail)
                  have gq1 : y2.drew.cell? ⟨pb, 1, none⟩ = some (.int .u32 (j : Int)) := (cell_of_row _ _ _ _ _ _ HBX2.out).trans rfl
                  have gq2 : y2.drew.cell? ⟨pb, 2, none⟩ = some (.int .i64 kk) := (cell_of_row _ _ _ _ _ _ HBX2.out).trans rfl
                  go_region_held3 (fun w' => w'.cell? ⟨pb, 1, none⟩ = some (.int .u32 (j : Int)) ∧ w'.cell? ⟨pb, 2, none⟩ = some (.int .i64 kk)) (first | (with_reducible refine ⟨?_, ?_⟩ <;> assumption) | fail)
                    (first
                      | (go_at_call 17; (with_reducible refine HPO.out.mono ?_); rintro e z1 ⟨rfl, hm1, hk1⟩; have HM1 := hid hm1; have HK := hid hk1; have hbz := (hk1.block pb HPB2.out (by have := HPB.out.1; omega)).trans HBX2D.out; have HBZ1 := hid hbz; have p1 : z1.cell? ⟨pb, 1, none⟩ = some (.int .u32 (j : Int)) := (cell_of_row _ _ _ _ _ _ hbz).trans rfl; have p2 : z1.cell? ⟨pb, 2, none⟩ = some (.int .i64 kk) := (cell_of_row _ _ _ _ _ _ hbz).trans rfl; have HP2 := hid (HPR.out z1 (HFD.out.prog hk1) (keepsS12 (HV.out.all (Below.refl _ y2).drew) HOF.out hk1)); clear hm1 hk1 hbz)
                      | (go_at_call 18; (with_reducible refine HP2.out.mono ?_); rintro e z2 ⟨rfl, hx2, hk2⟩; have hbz := (hk2.block pb (Nat.lt_of_lt_of_le HPB2.out HK.out.size) (fun h => by have := HPB.out.2 pb (.inr (.inr (.inr h))); omega)).trans HBZ1.out; have HBZ2' := hid hbz; have r1 : z2.cell? ⟨pb, 1, none⟩ = some (.int .u32 (j : Int)) := (cell_of_row _ _ _ _ _ _ hbz).trans rfl; have r2 : z2.cell? ⟨pb, 2, none⟩ = some (.int .i64 kk) := (cell_of_row _ _ _ _ _ _ hbz).trans rfl; have HF3 := hid (HFD.out.step HM1.out HK.out (show RxAt z2 lo G mz from hx2) (hk2.mono fun i _ h => .inr (.inr (.inr h))) HMR.out HON.out (show w.heap.size ≤ y2.drew.heap.size from HB2.out.size)); clear hx2 hk2 hbz)
                      | fail)
                  obtain ⟨z, hz⟩ : ∃ z, z = z2 := ⟨_, rfl⟩
                  have HFZ := hid (show Four z w.heap.size b lo G mz b2 l2 H m2 from by rw [hz]; exact HF3.out.1)
                  have HBZ := hid (show Below w.heap.size w z from by rw [hz]; exact HB2.out.drew.trans HF3.out.2)
                  rw [← hz]
                  clear hz
                  have HAL := hid (alike_any z b lo G mz a3 HFZ.out.at_ HFZ.out.x HFZ.out.o)
                  by_cases h10 : k = 10
                  · subst h10
                    go_wp2_with (first
                      | (go_at_call 23; (with_reducible refine HAL.out.mono ?_); rintro e z2 ⟨rfl, hbz2⟩; have HBZ2 := hid hbz2; have HF9 := hid (HFZ.out.keep hbz2); have HC1 := hid (copy_any z2 b mz HF9.out.at_); clear hbz2)
                      | (go_at_call 12; (with_reducible refine HC1.out.mono ?_); rintro e z3 ⟨rfl, hm3, hb3⟩; have HM3 := hid hm3; have HB3 := hid hb3; have HC2 := hid (rcopy_any z3 lo G mz (HF9.out.x.below hb3 (Nat.le_refl _))); clear hm3 hb3)
                      | (go_at_call 13; (with_reducible refine HC2.out.mono ?_); rintro e z4 ⟨H', rfl, hx4, hb4⟩; have HX4 := hid hx4; have HB4 := hid hb4; clear hx4 hb4)
                      | fail)
                    go_roundw
                    case rel => exact ⟨11, mz, z2.heap.size, z3.heap.size, H', mz, rfl, rfl, by go_num, HKL.out, by omega, Four.fresh HF9.out.at_ HF9.out.x HF9.out.o HF9.out.low HF9.out.bl HM3.out HB3.out HX4.out HB4.out, (HBZ.out.trans (HBZ2.out.mono HBZ.out.size)).trans ((HB3.out.trans (HB4.out.mono HB3.out.size)).mono (HBZ.out.trans (HBZ2.out.mono HBZ.out.size)).size)⟩
                    case measure => have := HKL.out; simp [intOf]; omega
                  · have d10 : ((k : Int) == 10) = false := by simp; omega
                    have d11 : decide ((k : Int) = 10) = false := decide_eq_false (by omega)
                    have hk40 := HK1.out
                    go_wp2_with (first
                      | (go_at_call 23; (with_reducible refine HAL.out.mono ?_); rintro e z2 ⟨rfl, hbz2⟩; have HBZ2 := hid hbz2; have HF9 := hid (HFZ.out.keep hbz2); have HC1 := hid (copy_any z2 b mz HF9.out.at_); clear hbz2)
                      | fail)
                    go_roundw
                    case rel => exact ⟨k + 1, mz, b2, l2, H, m2, rfl, rfl, by go_num, HKL.out, by have := HK1.out; omega, HF9.out, HBZ.out.trans (HBZ2.out.mono HBZ.out.size)⟩
                    case measure => have := HKL.out; simp [intOf]; omega
                · have hn3 : ((d : Int) == 3) = false := by simp; omega
                  by_cases hd4 : d = 4
                  · as_aux_lemma =>
                    subst hd4
                    have HFD := hid (HF2.out.keep (Below.refl _ y2).drew)
                    have HPO := hid (remove_all y2.drew b j m HFD.out.at_)
                    have HPR := hid (fun W (hx : RxAt W lo G m) => rremove_all W lo G j m hx)
                    have HPM := hid (And.intro (rm_r m j) (HF2.out.o.rmM (j := j) HF2.out.at_.n16))
                    generalize m.rmM j = mz at *
                    generalize m.rmE j = pe at *
                    have HMR := hid HPM.out.1
                    have HON := hid HPM.out.2
                    clear HPM
                    go_upto_region 24 with (fail)
                    have gq1 : y2.drew.cell? ⟨pb, 1, none⟩ = some (.int .u32 (j : Int)) := (cell_of_row _ _ _ _ _ _ HBX2.out).trans rfl
                    go_region_held3 (fun w' => w'.cell? ⟨pb, 1, none⟩ = some (.int .u32 (j : Int))) (first | assumption | fail)
                      (first
                        | (go_at_call 19; (with_reducible refine HPO.out.mono ?_); rintro e z1 ⟨rfl, hm1, hk1⟩; have HM1 := hid hm1; have HK := hid hk1; have hbz := (hk1.block pb HPB2.out (by have := HPB.out.1; omega)).trans HBX2D.out; have HBZ1 := hid hbz; have p1 : z1.cell? ⟨pb, 1, none⟩ = some (.int .u32 (j : Int)) := (cell_of_row _ _ _ _ _ _ hbz).trans rfl; have HP2 := hid (HPR.out z1 (HFD.out.prog hk1)); clear hm1 hk1 hbz)
                        | (go_at_call 20; (with_reducible refine HP2.out.mono ?_); rintro e z2 ⟨rfl, hx2, hk2⟩; have hbz := (hk2.block pb (Nat.lt_of_lt_of_le HPB2.out HK.out.size) (fun h => by have := HPB.out.2 pb (.inr (.inr (.inr h))); omega)).trans HBZ1.out; have HBZ2' := hid hbz; have r1 : z2.cell? ⟨pb, 1, none⟩ = some (.int .u32 (j : Int)) := (cell_of_row _ _ _ _ _ _ hbz).trans rfl; have HF3 := hid (HFD.out.step HM1.out HK.out (show RxAt z2 lo G mz from hx2) (hk2.mono fun i _ h => .inr (.inr (.inr h))) HMR.out HON.out (show w.heap.size ≤ y2.drew.heap.size from HB2.out.size)); clear hx2 hk2 hbz)
                        | fail)
                    obtain ⟨z, hz⟩ : ∃ z, z = z2 := ⟨_, rfl⟩
                    have HFZ := hid (show Four z w.heap.size b lo G mz b2 l2 H m2 from by rw [hz]; exact HF3.out.1)
                    have HBZ := hid (show Below w.heap.size w z from by rw [hz]; exact HB2.out.drew.trans HF3.out.2)
                    rw [← hz]
                    clear hz
                    have HAL := hid (alike_any z b lo G mz a3 HFZ.out.at_ HFZ.out.x HFZ.out.o)
                    by_cases h10 : k = 10
                    · subst h10
                      go_wp2_with (first
                        | (go_at_call 23; (with_reducible refine HAL.out.mono ?_); rintro e z2 ⟨rfl, hbz2⟩; have HBZ2 := hid hbz2; have HF9 := hid (HFZ.out.keep hbz2); have HC1 := hid (copy_any z2 b mz HF9.out.at_); clear hbz2)
                        | (go_at_call 12; (with_reducible refine HC1.out.mono ?_); rintro e z3 ⟨rfl, hm3, hb3⟩; have HM3 := hid hm3; have HB3 := hid hb3; have HC2 := hid (rcopy_any z3 lo G mz (HF9.out.x.below hb3 (Nat.le_refl _))); clear hm3 hb3)
                        | (go_at_call 13; (with_reducible refine HC2.out.mono ?_); rintro e z4 ⟨H', rfl, hx4, hb4⟩; have HX4 := hid hx4; have HB4 := hid hb4; clear hx4 hb4)
                        | fail)
                      go_roundw
                      case rel => exact ⟨11, mz, z2.heap.size, z3.heap.size, H', mz, rfl, rfl, by go_num, HKL.out, by omega, Four.fresh HF9.out.at_ HF9.out.x HF9.out.o HF9.out.low HF9.out.bl HM3.out HB3.out HX4.out HB4.out, (HBZ.out.trans (HBZ2.out.mono HBZ.out.size)).trans ((HB3.out.trans (HB4.out.mono HB3.out.size)).mono (HBZ.out.trans (HBZ2.out.mono HBZ.out.size)).size)⟩
                      case measure => have := HKL.out; simp [intOf]; omega
                    · have d10 : ((k : Int) == 10) = false := by simp; omega
                      have d11 : decide ((k : Int) = 10) = false := decide_eq_false (by omega)
                      have hk40 := HK1.out
                      go_wp2_with (first
                        | (go_at_call 23; (with_reducible refine HAL.out.mono ?_); rintro e z2 ⟨rfl, hbz2⟩; have HBZ2 := hid hbz2; have HF9 := hid (HFZ.out.keep hbz2); have HC1 := hid (copy_any z2 b mz HF9.out.at_); clear hbz2)
                        | fail)
                      go_roundw
                      case rel => exact ⟨k + 1, mz, b2, l2, H, m2, rfl, rfl, by go_num, HKL.out, by have := HK1.out; omega, HF9.out, HBZ.out.trans (HBZ2.out.mono HBZ.out.size)⟩
                      case measure => have := HKL.out; simp [intOf]; omega
                  · have hn4 : ((d : Int) == 4) = false := by simp; omega
                    by_cases hd5 : d = 5
                    · as_aux_lemma =>
                      subst hd5
                      have hxc1 := HF2.out.x.c1
                      have hcu1 := HF2.out.x.cur
                      have hcu2 := HF2.out.x.cum
                      have hn16 := HF2.out.at_.n16
                      by_cases hin : 0 ≤ kk ∧ kk < (m.n : Int)
                      · obtain ⟨hin1, hin2⟩ := hin
                        obtain ⟨q, rfl⟩ := Int.eq_ofNat_of_zero_le hin1
                        have hqn : q < m.n := by omega
                        have e1 : decide ((q : Int) ≥ 0) = true := decide_eq_true hin1
                        have e2 : decide ((0 : Int) ≤ (q : Int)) = true := decide_eq_true hin1
                        have e3 : decide ((q : Int) < (m.n : Int)) = true := decide_eq_true hin2
                        have e4 : decide (q < m.n) = true := decide_eq_true hqn
                        go_upto_region 29 with (fail)
                        go_quiet (fail)
                        obtain ⟨y3, hy3⟩ : ∃ x, x = y2.drewN nq := ⟨_, rfl⟩
                        have hb3 : Below y2.heap.size y2 y3 := by rw [hy3]; exact ⟨rfl, rfl, rfl, Nat.le_refl _, fun _ _ => rfl⟩
                        rw [← hy3]
                        have HF3 := hid (HF2.out.keep hb3)
                        have HBX3 := hid ((hb3.block pb HPB2.out).trans HBX2.out)
                        have HB3 := hid (HB2.out.trans (hb3.mono HB2.out.size))
                        clear hy3 hb3
                        have c2 : y3.cell? ⟨pb, 2, none⟩ = some (.int .i64 (q : Int)) := (cell_of_row _ _ _ _ _ _ HBX3.out).trans rfl
                        have c4 : y3.cell? ⟨pb, 4, none⟩ = some (.bool on) := (cell_of_row _ _ _ _ _ _ HBX3.out).trans rfl
                        have hyc1 : y3.cell? ⟨G.x, 1, none⟩ = some (.slice (some ⟨G.bu, 0, none⟩) m.n G.cu) := HF3.out.x.c1
                        go_upto_region 30 with (fail)
                        go_still_tail 9, (by kernel_rfl)
                        change wpList _ _ _ _ _ y3.drew
                        obtain ⟨y4, hy4⟩ : ∃ y, y = y3.drew := ⟨_, rfl⟩
                        rw [← hy4]
                        have HF4 := hid (show Four y4 w.heap.size b lo G m b2 l2 H m2 by rw [hy4]; exact HF3.out.keep (Below.refl _ y3).drew)
                        have HBX4 := hid (show y4.heap[pb]? = some (.cells #[.int .u8 ((5 : Nat) : Int), .int .u32 (j : Int), .int .i64 (q : Int), .slice A L C, .bool on] 36 (0, 0)) by rw [hy4]; exact HBX3.out)
                        have HB4 := hid (show Below w.heap.size w y4 by rw [hy4]; exact HB3.out.drew)
                        have F0 : y4.frozen? ⟨G.bu, q, none⟩ = false := HF4.out.x.upf q
                        have G0 : y4.cell? ⟨G.bu, q, none⟩ = some (.bool (!m.d q)) := HF4.out.x.up q hqn
                        clear hy4 hyc1 c2 c4
                        go_upto_region 31 with (fail)
                        obtain ⟨y5, hy5⟩ : ∃ y, y = y4.setCell ⟨G.bu, q, none⟩ (.bool on) := ⟨_, rfl⟩
                        rw [← hy5]
                        have HX5 := hid (show RxAt y5 lo G (m.turn q (!on)) by rw [hy5]; exact HF4.out.x.turn q on hqn)
                        have HK5 := hid (show Keeps (G.all m.r) y4 y5 by rw [hy5]; exact (Keeps.refl _ _).setCell (p := ⟨G.bu, q, none⟩) (fun _ => .inr (.inr (.inl rfl))) _)
                        clear hy5 F0 G0
                        have HBX5 := hid ((HK5.out.block pb (Array.getElem?_eq_some_iff.1 HBX4.out).1 (fun h => by have := HPB.out.2 pb h; omega)).trans HBX4.out)
                        have u2 : y5.cell? ⟨pb, 2, none⟩ = some (.int .i64 (q : Int)) := (cell_of_row _ _ _ _ _ _ HBX5.out).trans rfl
                        have u4 : y5.cell? ⟨pb, 4, none⟩ = some (.bool on) := (cell_of_row _ _ _ _ _ _ HBX5.out).trans rfl
                        have HU := hid (up_yes y5 b m q on (HF4.out.docs HK5.out) hqn)
                        have hiu : (!(m.turn q (!on)).d q) = on := by simp [Mx.turn]
                        have honn : (on == on) = true := by simp
                        go_upto_region 33 with (first
                          | (go_at_call 21; (with_reducible refine HU.out.mono ?_); rintro e z2 ⟨rfl, hm2, hk2⟩; have HF6 := hid (HF4.out.step2 HX5.out HK5.out hm2 hk2 rfl (One.turn HF4.out.o) HB4.out.size); have hbz := (hk2.block pb (Array.getElem?_eq_some_iff.1 HBX5.out).1 (by have := HPB.out.1; omega)).trans HBX5.out; have HBX6 := hid hbz; have r2 : z2.cell? ⟨pb, 2, none⟩ = some (.int .i64 (q : Int)) := (cell_of_row _ _ _ _ _ _ hbz).trans rfl; have r4 : z2.cell? ⟨pb, 4, none⟩ = some (.bool on) := (cell_of_row _ _ _ _ _ _ hbz).trans rfl; have hiu2 := isup_yes z2 b (m.turn q (!on)) q hm2 hqn; rw [hiu] at hiu2; have HIU := hid hiu2; clear hm2 hk2 hbz hiu2)
                          | (go_at_call 22; (with_reducible refine HIU.out.mono ?_); rintro e z3 ⟨rfl, rfl⟩; skip)
                          | fail)
                        obtain ⟨mz, hmz⟩ : ∃ x, x = m.turn q (!on) := ⟨_, rfl⟩
                        obtain ⟨z, hz⟩ : ∃ z, z = z2 := ⟨_, rfl⟩
                        have HFZ := hid (show Four z w.heap.size b lo G mz b2 l2 H m2 from by rw [hz, hmz]; exact HF6.out.1)
                        have HBZ := hid (show Below w.heap.size w z from by rw [hz]; exact HB4.out.trans HF6.out.2)
                        rw [← hz]
                        clear hz hmz
                        have HAL := hid (alike_any z b lo G mz a3 HFZ.out.at_ HFZ.out.x HFZ.out.o)
                        by_cases h10 : k = 10
                        · subst h10
                          go_wp2_with (first
                            | (go_at_call 23; (with_reducible refine HAL.out.mono ?_); rintro e z2 ⟨rfl, hbz2⟩; have HBZ2 := hid hbz2; have HF9 := hid (HFZ.out.keep hbz2); have HC1 := hid (copy_any z2 b mz HF9.out.at_); clear hbz2)
                            | (go_at_call 12; (with_reducible refine HC1.out.mono ?_); rintro e z3 ⟨rfl, hm3, hb3⟩; have HM3 := hid hm3; have HB3 := hid hb3; have HC2 := hid (rcopy_any z3 lo G mz (HF9.out.x.below hb3 (Nat.le_refl _))); clear hm3 hb3)
                            | (go_at_call 13; (with_reducible refine HC2.out.mono ?_); rintro e z4 ⟨H', rfl, hx4, hb4⟩; have HX4 := hid hx4; have HB4 := hid hb4; clear hx4 hb4)
                            | fail)
                          go_roundw
                          case rel => exact ⟨11, mz, z2.heap.size, z3.heap.size, H', mz, rfl, rfl, by go_num, HKL.out, by omega, Four.fresh HF9.out.at_ HF9.out.x HF9.out.o HF9.out.low HF9.out.bl HM3.out HB3.out HX4.out HB4.out, (HBZ.out.trans (HBZ2.out.mono HBZ.out.size)).trans ((HB3.out.trans (HB4.out.mono HB3.out.size)).mono (HBZ.out.trans (HBZ2.out.mono HBZ.out.size)).size)⟩
                          case measure => have := HKL.out; simp [intOf]; omega
                        · have d10 : ((k : Int) == 10) = false := by simp; omega
                          have d11 : decide ((k : Int) = 10) = false := decide_eq_false (by omega)
                          have hk40 := HK1.out
                          go_wp2_with (first
                            | (go_at_call 23; (with_reducible refine HAL.out.mono ?_); rintro e z2 ⟨rfl, hbz2⟩; have HBZ2 := hid hbz2; have HF9 := hid (HFZ.out.keep hbz2); have HC1 := hid (copy_any z2 b mz HF9.out.at_); clear hbz2)
                            | fail)
                          go_roundw
                          case rel => exact ⟨k + 1, mz, b2, l2, H, m2, rfl, rfl, by go_num, HKL.out, by have := HK1.out; omega, HF9.out, HBZ.out.trans (HBZ2.out.mono HBZ.out.size)⟩
                          case measure => have := HKL.out; simp [intOf]; omega
                      · by_cases hneg : kk < 0
                        · have e1 : decide (kk ≥ 0) = false := decide_eq_false (by omega)
                          have e2 : decide ((0 : Int) ≤ kk) = false := decide_eq_false (by omega)
                          go_upto_region 29 with (fail)
                          go_quiet (fail)
                          obtain ⟨y3, hy3⟩ : ∃ x, x = y2.drewN nq := ⟨_, rfl⟩
                          have hb3 : Below y2.heap.size y2 y3 := by rw [hy3]; exact ⟨rfl, rfl, rfl, Nat.le_refl _, fun _ _ => rfl⟩
                          rw [← hy3]
                          have HF3 := hid (HF2.out.keep hb3)
                          have HBX3 := hid ((hb3.block pb HPB2.out).trans HBX2.out)
                          have HB3 := hid (HB2.out.trans (hb3.mono HB2.out.size))
                          clear hy3 hb3
                          have c2 : y3.cell? ⟨pb, 2, none⟩ = some (.int .i64 kk) := (cell_of_row _ _ _ _ _ _ HBX3.out).trans rfl
                          have c4 : y3.cell? ⟨pb, 4, none⟩ = some (.bool on) := (cell_of_row _ _ _ _ _ _ HBX3.out).trans rfl
                          have HU := hid (up_no y3 b m kk on HF3.out.at_ (by omega))
                          have HIU := hid (isup_no y3 b m kk HF3.out.at_ (by omega))
                          go_upto_region 33 with (first
                            | (go_at_call 21; (with_reducible refine HU.out.mono ?_); rintro e z2 ⟨rfl, rfl⟩; skip)
                            | (go_at_call 22; (with_reducible refine HIU.out.mono ?_); rintro e z3 ⟨rfl, rfl⟩; skip)
                            | fail)
                          obtain ⟨mz, hmz⟩ : ∃ x, x = m := ⟨_, rfl⟩
                          obtain ⟨z, hz⟩ : ∃ z, z = y3 := ⟨_, rfl⟩
                          have HFZ := hid (show Four z w.heap.size b lo G mz b2 l2 H m2 from by rw [hz, hmz]; exact HF3.out)
                          have HBZ := hid (show Below w.heap.size w z from by rw [hz]; exact HB3.out)
                          rw [← hz]
                          clear hz hmz
                          have HAL := hid (alike_any z b lo G mz a3 HFZ.out.at_ HFZ.out.x HFZ.out.o)
                          by_cases h10 : k = 10
                          · subst h10
                            go_wp2_with (first
                              | (go_at_call 23; (with_reducible refine HAL.out.mono ?_); rintro e z2 ⟨rfl, hbz2⟩; have HBZ2 := hid hbz2; have HF9 := hid (HFZ.out.keep hbz2); have HC1 := hid (copy_any z2 b mz HF9.out.at_); clear hbz2)
                              | (go_at_call 12; (with_reducible refine HC1.out.mono ?_); rintro e z3 ⟨rfl, hm3, hb3⟩; have HM3 := hid hm3; have HB3 := hid hb3; have HC2 := hid (rcopy_any z3 lo G mz (HF9.out.x.below hb3 (Nat.le_refl _))); clear hm3 hb3)
                              | (go_at_call 13; (with_reducible refine HC2.out.mono ?_); rintro e z4 ⟨H', rfl, hx4, hb4⟩; have HX4 := hid hx4; have HB4 := hid hb4; clear hx4 hb4)
                              | fail)
                            go_roundw
                            case rel => exact ⟨11, mz, z2.heap.size, z3.heap.size, H', mz, rfl, rfl, by go_num, HKL.out, by omega, Four.fresh HF9.out.at_ HF9.out.x HF9.out.o HF9.out.low HF9.out.bl HM3.out HB3.out HX4.out HB4.out, (HBZ.out.trans (HBZ2.out.mono HBZ.out.size)).trans ((HB3.out.trans (HB4.out.mono HB3.out.size)).mono (HBZ.out.trans (HBZ2.out.mono HBZ.out.size)).size)⟩
                            case measure => have := HKL.out; simp [intOf]; omega
                          · have d10 : ((k : Int) == 10) = false := by simp; omega
                            have d11 : decide ((k : Int) = 10) = false := decide_eq_false (by omega)
                            have hk40 := HK1.out
                            go_wp2_with (first
                              | (go_at_call 23; (with_reducible refine HAL.out.mono ?_); rintro e z2 ⟨rfl, hbz2⟩; have HBZ2 := hid hbz2; have HF9 := hid (HFZ.out.keep hbz2); have HC1 := hid (copy_any z2 b mz HF9.out.at_); clear hbz2)
                              | fail)
                            go_roundw
                            case rel => exact ⟨k + 1, mz, b2, l2, H, m2, rfl, rfl, by go_num, HKL.out, by have := HK1.out; omega, HF9.out, HBZ.out.trans (HBZ2.out.mono HBZ.out.size)⟩
                            case measure => have := HKL.out; simp [intOf]; omega
                        · have e1 : decide (kk ≥ 0) = true := decide_eq_true (by omega)
                          have e2 : decide ((0 : Int) ≤ kk) = true := decide_eq_true (by omega)
                          have e3 : decide (kk < (m.n : Int)) = false := decide_eq_false (by omega)
                          go_upto_region 29 with (fail)
                          go_quiet (fail)
                          obtain ⟨y3, hy3⟩ : ∃ x, x = y2.drewN nq := ⟨_, rfl⟩
                          have hb3 : Below y2.heap.size y2 y3 := by rw [hy3]; exact ⟨rfl, rfl, rfl, Nat.le_refl _, fun _ _ => rfl⟩
                          rw [← hy3]
                          have HF3 := hid (HF2.out.keep hb3)
                          have HBX3 := hid ((hb3.block pb HPB2.out).trans HBX2.out)
                          have HB3 := hid (HB2.out.trans (hb3.mono HB2.out.size))
                          clear hy3 hb3
                          have c2 : y3.cell? ⟨pb, 2, none⟩ = some (.int .i64 kk) := (cell_of_row _ _ _ _ _ _ HBX3.out).trans rfl
                          have c4 : y3.cell? ⟨pb, 4, none⟩ = some (.bool on) := (cell_of_row _ _ _ _ _ _ HBX3.out).trans rfl
                          have HU := hid (up_no y3 b m kk on HF3.out.at_ (by omega))
                          have HIU := hid (isup_no y3 b m kk HF3.out.at_ (by omega))
                          go_upto_region 33 with (first
                            | (go_at_call 21; (with_reducible refine HU.out.mono ?_); rintro e z2 ⟨rfl, rfl⟩; skip)
                            | (go_at_call 22; (with_reducible refine HIU.out.mono ?_); rintro e z3 ⟨rfl, rfl⟩; skip)
                            | fail)
                          obtain ⟨mz, hmz⟩ : ∃ x, x = m := ⟨_, rfl⟩
                          obtain ⟨z, hz⟩ : ∃ z, z = y3 := ⟨_, rfl⟩
                          have HFZ := hid (show Four z w.heap.size b lo G mz b2 l2 H m2 from by rw [hz, hmz]; exact HF3.out)
                          have HBZ := hid (show Below w.heap.size w z from by rw [hz]; exact HB3.out)
                          rw [← hz]
                          clear hz hmz
                          have HAL := hid (alike_any z b lo G mz a3 HFZ.out.at_ HFZ.out.x HFZ.out.o)
                          by_cases h10 : k = 10
                          · subst h10
                            go_wp2_with (first
                              | (go_at_call 23; (with_reducible refine HAL.out.mono ?_); rintro e z2 ⟨rfl, hbz2⟩; have HBZ2 := hid hbz2; have HF9 := hid (HFZ.out.keep hbz2); have HC1 := hid (copy_any z2 b mz HF9.out.at_); clear hbz2)
                              | (go_at_call 12; (with_reducible refine HC1.out.mono ?_); rintro e z3 ⟨rfl, hm3, hb3⟩; have HM3 := hid hm3; have HB3 := hid hb3; have HC2 := hid (rcopy_any z3 lo G mz (HF9.out.x.below hb3 (Nat.le_refl _))); clear hm3 hb3)
                              | (go_at_call 13; (with_reducible refine HC2.out.mono ?_); rintro e z4 ⟨H', rfl, hx4, hb4⟩; have HX4 := hid hx4; have HB4 := hid hb4; clear hx4 hb4)
                              | fail)
                            go_roundw
                            case rel => exact ⟨11, mz, z2.heap.size, z3.heap.size, H', mz, rfl, rfl, by go_num, HKL.out, by omega, Four.fresh HF9.out.at_ HF9.out.x HF9.out.o HF9.out.low HF9.out.bl HM3.out HB3.out HX4.out HB4.out, (HBZ.out.trans (HBZ2.out.mono HBZ.out.size)).trans ((HB3.out.trans (HB4.out.mono HB3.out.size)).mono (HBZ.out.trans (HBZ2.out.mono HBZ.out.size)).size)⟩
                            case measure => have := HKL.out; simp [intOf]; omega
                          · have d10 : ((k : Int) == 10) = false := by simp; omega
                            have d11 : decide ((k : Int) = 10) = false := decide_eq_false (by omega)
                            have hk40 := HK1.out
                            go_wp2_with (first
                              | (go_at_call 23; (with_reducible refine HAL.out.mono ?_); rintro e z2 ⟨rfl, hbz2⟩; have HBZ2 := hid hbz2; have HF9 := hid (HFZ.out.keep hbz2); have HC1 := hid (copy_any z2 b mz HF9.out.at_); clear hbz2)
                              | fail)
                            go_roundw
                            case rel => exact ⟨k + 1, mz, b2, l2, H, m2, rfl, rfl, by go_num, HKL.out, by have := HK1.out; omega, HF9.out, HBZ.out.trans (HBZ2.out.mono HBZ.out.size)⟩
                            case measure => have := HKL.out; simp [intOf]; omega
                    · have hn5 : ((d : Int) == 5) = false := by simp; omega
                      as_aux_lemma =>
                        go_upto_region 33 with (fail)
                        obtain ⟨z, hz⟩ : ∃ z, z = y2 := ⟨_, rfl⟩
                        have HBZ := hid (show Below w.heap.size w z from by rw [hz]; exact HB2.out)
                        obtain ⟨mz, hmz⟩ : ∃ q, q = m := ⟨_, rfl⟩
                        have HFZ := hid (show Four z w.heap.size b lo G mz b2 l2 H m2 from by rw [hz, hmz]; exact HF2.out)
                        rw [← hz]
                        clear hz hmz
                        have HAL := hid (alike_any z b lo G mz a3 HFZ.out.at_ HFZ.out.x HFZ.out.o)
                        by_cases h10 : k = 10
                        · subst h10
                          go_wp2_with (first
                            | (go_at_call 23; (with_reducible refine HAL.out.mono ?_); rintro e z2 ⟨rfl, hbz2⟩; have HBZ2 := hid hbz2; have HF9 := hid (HFZ.out.keep hbz2); have HC1 := hid (copy_any z2 b mz HF9.out.at_); clear hbz2)
                            | (go_at_call 12; (with_reducible refine HC1.out.mono ?_); rintro e z3 ⟨rfl, hm3, hb3⟩; have HM3 := hid hm3; have HB3 := hid hb3; have HC2 := hid (rcopy_any z3 lo G mz (HF9.out.x.below hb3 (Nat.le_refl _))); clear hm3 hb3)
                            | (go_at_call 13; (with_reducible refine HC2.out.mono ?_); rintro e z4 ⟨H', rfl, hx4, hb4⟩; have HX4 := hid hx4; have HB4 := hid hb4; clear hx4 hb4)
                            | fail)
                          go_roundw
                          case rel => exact ⟨11, mz, z2.heap.size, z3.heap.size, H', mz, rfl, rfl, by go_num, HKL.out, by omega, Four.fresh HF9.out.at_ HF9.out.x HF9.out.o HF9.out.low HF9.out.bl HM3.out HB3.out HX4.out HB4.out, (HBZ.out.trans (HBZ2.out.mono HBZ.out.size)).trans ((HB3.out.trans (HB4.out.mono HB3.out.size)).mono (HBZ.out.trans (HBZ2.out.mono HBZ.out.size)).size)⟩
                          case measure => have := HKL.out; simp [intOf]; omega
                        · have d10 : ((k : Int) == 10) = false := by simp; omega
                          have d11 : decide ((k : Int) = 10) = false := decide_eq_false (by omega)
                          have hk40 := HK1.out
                          go_wp2_with (first
                            | (go_at_call 23; (with_reducible refine HAL.out.mono ?_); rintro e z2 ⟨rfl, hbz2⟩; have HBZ2 := hid hbz2; have HF9 := hid (HFZ.out.keep hbz2); have HC1 := hid (copy_any z2 b mz HF9.out.at_); clear hbz2)
                            | fail)
                          go_roundw
                          case rel => exact ⟨k + 1, mz, b2, l2, H, m2, rfl, rfl, by go_num, HKL.out, by have := HK1.out; omega, HF9.out, HBZ.out.trans (HBZ2.out.mono HBZ.out.size)⟩
                          case measure => have := HKL.out; simp [intOf]; omega
      · have hki : ¬ (k : Int) < (len2 : Int) := by omega
        clear hB hk hk1
        have HAL := hid (alike_any wr b2 l2 H m2 a3 HF.out.at2 HF.out.x2 HF.out.o2)
        go_wp2_with (first
          | (go_at_call 23; (with_reducible refine HAL.out.mono ?_); rintro e we ⟨rfl, hbe⟩; have HBE := hid hbe; clear hbe)
          | fail)
        go_ret
        exact ⟨rfl, HB.out.trans (HBE.out.mono HB.out.size)⟩
  · have HNO := hid (new_no x1 a0 a1 (by omega))
    have HRN := hid (rnew_no x1 a0 a1 (by omega))
    clear hrn
    go_upto_region 9 with (first
      | (go_at_call 10; (with_reducible refine HNO.out.mono ?_); rintro e x2 ⟨rfl, rfl⟩; skip)
      | (go_at_call 11; (with_reducible refine HRN.out.mono ?_); rintro e x3 ⟨rfl, rfl⟩; skip)
      | (go_at_call 12; (with_reducible refine (copy_nil _).mono ?_); rintro e x3 ⟨rfl, rfl⟩; skip)
      | (go_at_call 13; (with_reducible refine (rcopy_nil _).mono ?_); rintro e x3 ⟨rfl, rfl⟩; skip)
      | fail)
    go_loopw [13, 14, 56] (fun wv ov i wr => ∃ k : Nat, wv = .pointer none ∧ ov = .pointer none ∧ i = .int .i64 k ∧ k ≤ len2 ∧ k ≤ 40 ∧ Below w.heap.size w wr) (fun _ _ i _ => len2 - (intOf i).toNat)
    case atStart => exact ⟨0, rfl, rfl, rfl, Nat.zero_le _, Nat.zero_le _, HB1.out⟩
    case round =>
      obtain ⟨k, rfl, rfl, rfl, hk, hk1, hB⟩ := hrel
      have HB := hid hB

      by_cases hlt : k < len2
      · obtain ⟨gb, off, d, j, kk, A, L, C, t, on, rfl, z0, z1, z2, z3, z4, hd, hj, hkk, hct⟩ := HOP.out.at hB hlt
        have HCT := hid hct
        have HKL := hid hlt
        have HJ := hid hj
        have hki : (k : Int) < (len2 : Int) := by omega
        obtain ⟨y1, hy1⟩ : ∃ y, y = wr.alloc (.cells #[.int .u8 (d : Int), .int .u32 (j : Int), .int .i64 kk, .slice A L C, .bool on] 36) := ⟨_, rfl⟩
        have hby : Below wr.heap.size wr y1 := by rw [hy1]; exact (Below.refl _ _).alloc (Nat.le_refl _) _
        have hbx : y1.heap[wr.heap.size]? = some (.cells #[.int .u8 (d : Int), .int .u32 (j : Int), .int .i64 kk, .slice A L C, .bool on] 36 (0, 0)) := by rw [hy1]; exact heap_alloc_new wr _
        obtain ⟨pb, hpb⟩ : ∃ p, p = wr.heap.size := ⟨_, rfl⟩
        rw [← hpb] at hbx
        have HBX := hid hbx
        have HBY1 := hid (hB.trans (hby.mono hB.size))
        have HCT1 := hid (hct.below hby)
        have o0 : y1.cell? ⟨pb, 0, none⟩ = some (.int .u8 (d : Int)) := (cell_of_row _ _ _ _ _ _ hbx).trans rfl
        have o1 : y1.cell? ⟨pb, 1, none⟩ = some (.int .u32 (j : Int)) := (cell_of_row _ _ _ _ _ _ hbx).trans rfl
        have o2 : y1.cell? ⟨pb, 2, none⟩ = some (.int .i64 kk) := (cell_of_row _ _ _ _ _ _ hbx).trans rfl
        have o3 : y1.cell? ⟨pb, 3, none⟩ = some (.slice A L C) := (cell_of_row _ _ _ _ _ _ hbx).trans rfl
        have o4 : y1.cell? ⟨pb, 4, none⟩ = some (.bool on) := (cell_of_row _ _ _ _ _ _ hbx).trans rfl
        clear hby hbx hB hlt hct hj
        go_upto_region 11 with (fail)
        rw [← hy1, ← hpb]
        clear hy1 hpb z0 z1 z2 z3 z4
        by_cases h40 : k = 40
        · have d1 : decide ((k : Int) ≥ 40) = true := decide_eq_true (by omega)
          have d2 : decide ((40 : Int) ≤ (k : Int)) = true := decide_eq_true (by omega)
          clear h40 hk1 hk
          have HAL := hid (alike_nil y1 a3)
          go_wp2_with (first
            | (go_at_call 23; (with_reducible refine HAL.out.mono ?_); rintro e we ⟨rfl, hbe⟩; have HBE := hid hbe; clear hbe)
            | fail)
          go_ret
          exact ⟨rfl, HBY1.out.trans (HBE.out.mono HBY1.out.size)⟩
        · have d1 : decide ((k : Int) ≥ 40) = false := decide_eq_false (by omega)
          have d2 : decide ((40 : Int) ≤ (k : Int)) = false := decide_eq_false (by omega)
          have HK1 := hid (show k < 40 by omega)
          have hk40 : k < 40 := by omega
          clear h40 hk1 hk
          have hlen := HCT1.out.len
          have hmin := HCT1.out.min
          have hl1 := HCT1.out.l1
          have hl2 := HCT1.out.l2
          have hl3 := HCT1.out.l3
          have hl4 := HCT1.out.l4
          have hbA0 : Below y1.heap.size y1 (y1.alloc (.cells #[] 3)) := (Below.refl _ y1).alloc (Nat.le_refl _) _
          have HSRC := hid (HCT1.out.below hbA0).src
          have HM0 := hid (show (y1.alloc (.cells #[] 3)).ownsRow y1.heap.size 3 1 (.slice (some ⟨y1.heap.size, 0, none⟩) 0 0) 0 [] from World.ownsRow_made y1 (e := 3) (size := 1) #[] 0 (base := y1.heap.size) (Nat.le_refl _) (Nat.zero_le _) rfl)
          have e3 : (y1.alloc (.cells #[] 3)).cell? ⟨pb, 3, none⟩ = some (.slice A L C) := (hbA0.cell (p := ⟨pb, 3, none⟩) (Array.getElem?_eq_some_iff.1 HBX.out).1).trans o3
          obtain ⟨tl, htl⟩ : ∃ n, n = t.length := ⟨_, rfl⟩
          rw [← htl] at hlen hmin hl1 hl3 HSRC
          have HTL := hid htl
          have hmin2 : min (L : Int) 20 = (tl : Int) := by omega
          have hlL : tl ≤ L := by omega
          have HRL := hid (show (t.map fun x => Value.int .i64 x).length = tl * 1 by simp [htl])
          clear htl hbA0
          go_upto_region 13 with (first
            | (at_builtin; (refine appsw (by rfl) 34 3 (.tmp 63) (.tmp 70) rfl y1.heap.size 1 8 _ Try.underlying34 infoIntA rfl (by decide) _ _ 0 tl tl _ _ rfl rfl HM0.out HSRC.out HRL.out (by intro y hy; obtain ⟨z, _, rfl⟩ := List.mem_map.1 hy; rfl) (by omega) (by omega) (by omega) (by simp) ?_); intro adA cpA y2 hoA hgA; rw [List.nil_append] at hoA; have HOA := hid hoA; have HGA := hid hgA; clear hoA hgA)
            | fail)
          have HBA := hid (show Below y1.heap.size y1 y2 from ((Below.refl _ y1).alloc (Nat.le_refl _) (.cells #[] 3)).grown HGA.out (by simp) (fun g hg => (World.ownsRow.lt HM0.out g hg).1))
          have HBX2 := hid ((HBA.out.block pb (Array.getElem?_eq_some_iff.1 HBX.out).1).trans HBX.out)
          have HB2 := hid (HBY1.out.trans (HBA.out.mono HBY1.out.size))

          clear o0 o1 o2 o3 o4 e3 hmin hmin2 hl1 hl2 hl3 hl4 hlL hlen HGA HSRC HM0 HRL HBX
          have v0 : y2.cell? ⟨pb, 0, none⟩ = some (.int .u8 (d : Int)) := (cell_of_row _ _ _ _ _ _ HBX2.out).trans rfl
          have v1 : y2.cell? ⟨pb, 1, none⟩ = some (.int .u32 (j : Int)) := (cell_of_row _ _ _ _ _ _ HBX2.out).trans rfl
          have v2 : y2.cell? ⟨pb, 2, none⟩ = some (.int .i64 kk) := (cell_of_row _ _ _ _ _ _ HBX2.out).trans rfl
          have v3 : y2.cell? ⟨pb, 3, none⟩ = some (.slice A L C) := (cell_of_row _ _ _ _ _ _ HBX2.out).trans rfl
          have v4 : y2.cell? ⟨pb, 4, none⟩ = some (.bool on) := (cell_of_row _ _ _ _ _ _ HBX2.out).trans rfl
          by_cases hd0 : d = 0
          · as_aux_lemma =>
            subst hd0
            have HSI := hid (sameints_any y2 (.slice none 0 0) (.slice none 0 0) [] [] (RdV.nil _) (RdV.nil _))
            rw [show decide (([] : List Nat) = []) = true by simp] at HSI
            go_upto_region 33 with (first
              | (go_at_call 14; (with_reducible refine (place_nil _ _ _).mono ?_); rintro e z1 ⟨rfl, rfl⟩; skip)
              | (go_at_call 15; (with_reducible refine (rplace_nil _ _ _).mono ?_); rintro e z1 ⟨rfl, rfl⟩; skip)
              | (go_at_call 16; (with_reducible refine HSI.out.mono ?_); rintro e z ⟨rfl, hbz⟩; have HBZ := hid (HB2.out.trans (hbz.mono HB2.out.size)); clear hbz)
              | fail)
            have HAL := hid (alike_nil z a3)
            by_cases h10 : k = 10
            · have d10 : ((k : Int) == 10) = true := by simp; omega
              have d11 : decide ((k : Int) = 10) = true := decide_eq_true (by omega)
              subst h10
              go_wp2_with (first
                | (go_at_call 23; (with_reducible refine HAL.out.mono ?_); rintro e z2 ⟨rfl, hbz2⟩; have HBZ2 := hid hbz2; clear hbz2)
                | (go_at_call 12; (with_reducible refine (copy_nil _).mono ?_); rintro e z3 ⟨rfl, rfl⟩; skip)
                | (go_at_call 13; (with_reducible refine (rcopy_nil _).mono ?_); rintro e z3 ⟨rfl, rfl⟩; skip)
                | fail)
              go_roundw
              case rel => exact ⟨11, rfl, rfl, by go_num, HKL.out, by have := HK1.out; omega, HBZ.out.trans (HBZ2.out.mono HBZ.out.size)⟩
              case measure => have := HKL.out; simp [intOf]; omega
            · have d10 : ((k : Int) == 10) = false := by simp; omega
              have d11 : decide ((k : Int) = 10) = false := decide_eq_false (by omega)
              have hk40 := HK1.out
              go_wp2_with (first
                | (go_at_call 23; (with_reducible refine HAL.out.mono ?_); rintro e z2 ⟨rfl, hbz2⟩; have HBZ2 := hid hbz2; clear hbz2)
                | fail)
              go_roundw
              case rel => exact ⟨k + 1, rfl, rfl, by go_num, HKL.out, by have := HK1.out; omega, HBZ.out.trans (HBZ2.out.mono HBZ.out.size)⟩
              case measure => have := HKL.out; simp [intOf]; omega
          · have hn0 : ((d : Int) == 0) = false := by simp; omega
            by_cases hd1 : d = 1
            · as_aux_lemma =>
              subst hd1
              have HSI := hid (sameints_any y2 (.slice none 0 0) (.slice none 0 0) [] [] (RdV.nil _) (RdV.nil _))
              rw [show decide (([] : List Nat) = []) = true by simp] at HSI
              go_upto_region 33 with (first
                | (go_at_call 14; (with_reducible refine (place_nil _ _ _).mono ?_); rintro e z1 ⟨rfl, rfl⟩; skip)
                | (go_at_call 15; (with_reducible refine (rplace_nil _ _ _).mono ?_); rintro e z1 ⟨rfl, rfl⟩; skip)
                | (go_at_call 16; (with_reducible refine HSI.out.mono ?_); rintro e z ⟨rfl, hbz⟩; have HBZ := hid (HB2.out.trans (hbz.mono HB2.out.size)); clear hbz)
                | fail)
              have HAL := hid (alike_nil z a3)
              by_cases h10 : k = 10
              · have d10 : ((k : Int) == 10) = true := by simp; omega
                have d11 : decide ((k : Int) = 10) = true := decide_eq_true (by omega)
                subst h10
                go_wp2_with (first
                  | (go_at_call 23; (with_reducible refine HAL.out.mono ?_); rintro e z2 ⟨rfl, hbz2⟩; have HBZ2 := hid hbz2; clear hbz2)
                  | (go_at_call 12; (with_reducible refine (copy_nil _).mono ?_); rintro e z3 ⟨rfl, rfl⟩; skip)
                  | (go_at_call 13; (with_reducible refine (rcopy_nil _).mono ?_); rintro e z3 ⟨rfl, rfl⟩; skip)
                  | fail)
                go_roundw
                case rel => exact ⟨11, rfl, rfl, by go_num, HKL.out, by have := HK1.out; omega, HBZ.out.trans (HBZ2.out.mono HBZ.out.size)⟩
                case measure => have := HKL.out; simp [intOf]; omega
              · have d10 : ((k : Int) == 10) = false := by simp; omega
                have d11 : decide ((k : Int) = 10) = false := decide_eq_false (by omega)
                have hk40 := HK1.out
                go_wp2_with (first
                  | (go_at_call 23; (with_reducible refine HAL.out.mono ?_); rintro e z2 ⟨rfl, hbz2⟩; have HBZ2 := hid hbz2; clear hbz2)
                  | fail)
                go_roundw
                case rel => exact ⟨k + 1, rfl, rfl, by go_num, HKL.out, by have := HK1.out; omega, HBZ.out.trans (HBZ2.out.mono HBZ.out.size)⟩
                case measure => have := HKL.out; simp [intOf]; omega
            · have hn1 : ((d : Int) == 1) = false := by simp; omega
              by_cases hd2 : d = 2
              · as_aux_lemma =>
                subst hd2
                have HSI := hid (sameints_any y2 (.slice none 0 0) (.slice none 0 0) [] [] (RdV.nil _) (RdV.nil _))
                rw [show decide (([] : List Nat) = []) = true by simp] at HSI
                go_upto_region 33 with (first
                  | (go_at_call 14; (with_reducible refine (place_nil _ _ _).mono ?_); rintro e z1 ⟨rfl, rfl⟩; skip)
                  | (go_at_call 15; (with_reducible refine (rplace_nil _ _ _).mono ?_); rintro e z1 ⟨rfl, rfl⟩; skip)
                  | (go_at_call 16; (with_reducible refine HSI.out.mono ?_); rintro e z ⟨rfl, hbz⟩; have HBZ := hid (HB2.out.trans (hbz.mono HB2.out.size)); clear hbz)
                  | fail)
                have HAL := hid (alike_nil z a3)
                by_cases h10 : k = 10
                · have d10 : ((k : Int) == 10) = true := by simp; omega
                  have d11 : decide ((k : Int) = 10) = true := decide_eq_true (by omega)
                  subst h10
                  go_wp2_with (first
                    | (go_at_call 23; (with_reducible refine HAL.out.mono ?_); rintro e z2 ⟨rfl, hbz2⟩; have HBZ2 := hid hbz2; clear hbz2)
                    | (go_at_call 12; (with_reducible refine (copy_nil _).mono ?_); rintro e z3 ⟨rfl, rfl⟩; skip)
                    | (go_at_call 13; (with_reducible refine (rcopy_nil _).mono ?_); rintro e z3 ⟨rfl, rfl⟩; skip)
                    | fail)
                  go_roundw
                  case rel => exact ⟨11, rfl, rfl, by go_num, HKL.out, by have := HK1.out; omega, HBZ.out.trans (HBZ2.out.mono HBZ.out.size)⟩
                  case measure => have := HKL.out; simp [intOf]; omega
                · have d10 : ((k : Int) == 10) = false := by simp; omega
                  have d11 : decide ((k : Int) = 10) = false := decide_eq_false (by omega)
                  have hk40 := HK1.out
                  go_wp2_with (first
                    | (go_at_call 23; (with_reducible refine HAL.out.mono ?_); rintro e z2 ⟨rfl, hbz2⟩; have HBZ2 := hid hbz2; clear hbz2)
                    | fail)
                  go_roundw
                  case rel => exact ⟨k + 1, rfl, rfl, by go_num, HKL.out, by have := HK1.out; omega, HBZ.out.trans (HBZ2.out.mono HBZ.out.size)⟩
                  case measure => have := HKL.out; simp [intOf]; omega
              · have hn2 : ((d : Int) == 2) = false := by simp; omega
                by_cases hd3 : d = 3
                · as_aux_lemma =>
                  subst hd3
                  go_upto_region 22 with (fail)
                  have gq1 : y2.drew.cell? ⟨pb, 1, none⟩ = some (.int .u32 (j : Int)) := (cell_of_row _ _ _ _ _ _ HBX2.out).trans rfl
                  have gq2 : y2.drew.cell? ⟨pb, 2, none⟩ = some (.int .i64 kk) := (cell_of_row _ _ _ _ _ _ HBX2.out).trans rfl
                  go_region_held3 (fun w' => w'.cell? ⟨pb, 1, none⟩ = some (.int .u32 (j : Int)) ∧ w'.cell? ⟨pb, 2, none⟩ = some (.int .i64 kk)) (first | (with_reducible refine ⟨?_, ?_⟩ <;> assumption) | fail)
                    (first
                      | (go_at_call 17; (with_reducible refine (put_nil _ _ _ _).mono ?_); rintro e z1 ⟨rfl, rfl⟩; skip)
                      | (go_at_call 18; (with_reducible refine (rput_nil _ _ _ _).mono ?_); rintro e z1 ⟨rfl, rfl⟩; skip)
                      | fail)
                  obtain ⟨z, hz⟩ : ∃ z, z = y2.drew := ⟨_, rfl⟩
                  have HBZ := hid (show Below w.heap.size w z from by rw [hz]; exact HB2.out.drew)
                  rw [← hz]
                  clear hz
                  have HAL := hid (alike_nil z a3)
                  by_cases h10 : k = 10
                  · have d10 : ((k : Int) == 10) = true := by simp; omega
                    have d11 : decide ((k : Int) = 10) = true := decide_eq_true (by omega)
                    subst h10
                    go_wp2_with (first
                      | (go_at_call 23; (with_reducible refine HAL.out.mono ?_); rintro e z2 ⟨rfl, hbz2⟩; have HBZ2 := hid hbz2; clear hbz2)
                      | (go_at_call 12; (with_reducible refine (copy_nil _).mono ?_); rintro e z3 ⟨rfl, rfl⟩; skip)
                      | (go_at_call 13; (with_reducible refine (rcopy_nil _).mono ?_); rintro e z3 ⟨rfl, rfl⟩; skip)
                      | fail)
                    go_roundw
                    case rel => exact ⟨11, rfl, rfl, by go_num, HKL.out, by have := HK1.out; omega, HBZ.out.trans (HBZ2.out.mono HBZ.out.size)⟩
                    case measure => have := HKL.out; simp [intOf]; omega
                  · have d10 : ((k : Int) == 10) = false := by simp; omega
                    have d11 : decide ((k : Int) = 10) = false := decide_eq_false (by omega)
                    have hk40 := HK1.out
                    go_wp2_with (first
                      | (go_at_call 23; (with_reducible refine HAL.out.mono ?_); rintro e z2 ⟨rfl, hbz2⟩; have HBZ2 := hid hbz2; clear hbz2)
                      | fail)
                    go_roundw
                    case rel => exact ⟨k + 1, rfl, rfl, by go_num, HKL.out, by have := HK1.out; omega, HBZ.out.trans (HBZ2.out.mono HBZ.out.size)⟩
                    case measure => have := HKL.out; simp [intOf]; omega
                · have hn3 : ((d : Int) == 3) = false := by simp; omega
                  by_cases hd4 : d = 4
                  · as_aux_lemma =>
                    subst hd4
                    go_upto_region 24 with (fail)
                    have gq1 : y2.drew.cell? ⟨pb, 1, none⟩ = some (.int .u32 (j : Int)) := (cell_of_row _ _ _ _ _ _ HBX2.out).trans rfl
                    go_region_held3 (fun w' => w'.cell? ⟨pb, 1, none⟩ = some (.int .u32 (j : Int))) (first | assumption | fail)
                      (first
                        | (go_at_call 19; (with_reducible refine (remove_nil _ _).mono ?_); rintro e z1 ⟨rfl, rfl⟩; skip)
                        | (go_at_call 20; (with_reducible refine (rremove_nil _ _).mono ?_); rintro e z1 ⟨rfl, rfl⟩; skip)
                        | fail)
                    obtain ⟨z, hz⟩ : ∃ z, z = y2.drew := ⟨_, rfl⟩
                    have HBZ := hid (show Below w.heap.size w z from by rw [hz]; exact HB2.out.drew)
                    rw [← hz]
                    clear hz
                    have HAL := hid (alike_nil z a3)
                    by_cases h10 : k = 10
                    · have d10 : ((k : Int) == 10) = true := by simp; omega
                      have d11 : decide ((k : Int) = 10) = true := decide_eq_true (by omega)
                      subst h10
                      go_wp2_with (first
                        | (go_at_call 23; (with_reducible refine HAL.out.mono ?_); rintro e z2 ⟨rfl, hbz2⟩; have HBZ2 := hid hbz2; clear hbz2)
                        | (go_at_call 12; (with_reducible refine (copy_nil _).mono ?_); rintro e z3 ⟨rfl, rfl⟩; skip)
                        | (go_at_call 13; (with_reducible refine (rcopy_nil _).mono ?_); rintro e z3 ⟨rfl, rfl⟩; skip)
                        | fail)
                      go_roundw
                      case rel => exact ⟨11, rfl, rfl, by go_num, HKL.out, by have := HK1.out; omega, HBZ.out.trans (HBZ2.out.mono HBZ.out.size)⟩
                      case measure => have := HKL.out; simp [intOf]; omega
                    · have d10 : ((k : Int) == 10) = false := by simp; omega
                      have d11 : decide ((k : Int) = 10) = false := decide_eq_false (by omega)
                      have hk40 := HK1.out
                      go_wp2_with (first
                        | (go_at_call 23; (with_reducible refine HAL.out.mono ?_); rintro e z2 ⟨rfl, hbz2⟩; have HBZ2 := hid hbz2; clear hbz2)
                        | fail)
                      go_roundw
                      case rel => exact ⟨k + 1, rfl, rfl, by go_num, HKL.out, by have := HK1.out; omega, HBZ.out.trans (HBZ2.out.mono HBZ.out.size)⟩
                      case measure => have := HKL.out; simp [intOf]; omega
                  · have hn4 : ((d : Int) == 4) = false := by simp; omega
                    by_cases hd5 : d = 5
                    · as_aux_lemma =>
                      subst hd5
                      go_upto_region 33 with (first
                        | (go_at_call 21; (with_reducible refine (up_nil _ _ _).mono ?_); rintro e z1 ⟨rfl, rfl⟩; skip)
                        | (go_at_call 22; (with_reducible refine (isup_nil _ _).mono ?_); rintro e z1 ⟨rfl, rfl⟩; skip)
                        | fail)
                      obtain ⟨z, hz⟩ : ∃ z, z = y2 := ⟨_, rfl⟩
                      have HBZ := hid (show Below w.heap.size w z from by rw [hz]; exact HB2.out)
                      rw [← hz]
                      clear hz
                      have HAL := hid (alike_nil z a3)
                      by_cases h10 : k = 10
                      · have d10 : ((k : Int) == 10) = true := by simp; omega
                        have d11 : decide ((k : Int) = 10) = true := decide_eq_true (by omega)
                        subst h10
                        go_wp2_with (first
                          | (go_at_call 23; (with_reducible refine HAL.out.mono ?_); rintro e z2 ⟨rfl, hbz2⟩; have HBZ2 := hid hbz2; clear hbz2)
                          | (go_at_call 12; (with_reducible refine (copy_nil _).mono ?_); rintro e z3 ⟨rfl, rfl⟩; skip)
                          | (go_at_call 13; (with_reducible refine (rcopy_nil _).mono ?_); rintro e z3 ⟨rfl, rfl⟩; skip)
                          | fail)
                        go_roundw
                        case rel => exact ⟨11, rfl, rfl, by go_num, HKL.out, by have := HK1.out; omega, HBZ.out.trans (HBZ2.out.mono HBZ.out.size)⟩
                        case measure => have := HKL.out; simp [intOf]; omega
                      · have d10 : ((k : Int) == 10) = false := by simp; omega
                        have d11 : decide ((k : Int) = 10) = false := decide_eq_false (by omega)
                        have hk40 := HK1.out
                        go_wp2_with (first
                          | (go_at_call 23; (with_reducible refine HAL.out.mono ?_); rintro e z2 ⟨rfl, hbz2⟩; have HBZ2 := hid hbz2; clear hbz2)
                          | fail)
                        go_roundw
                        case rel => exact ⟨k + 1, rfl, rfl, by go_num, HKL.out, by have := HK1.out; omega, HBZ.out.trans (HBZ2.out.mono HBZ.out.size)⟩
                        case measure => have := HKL.out; simp [intOf]; omega
                    · have hn5 : ((d : Int) == 5) = false := by simp; omega
                      as_aux_lemma =>
                        go_upto_region 33 with (fail)
                        obtain ⟨z, hz⟩ : ∃ z, z = y2 := ⟨_, rfl⟩
                        have HBZ := hid (show Below w.heap.size w z from by rw [hz]; exact HB2.out)
                        rw [← hz]
                        clear hz
                        have HAL := hid (alike_nil z a3)
                        by_cases h10 : k = 10
                        · have d10 : ((k : Int) == 10) = true := by simp; omega
                          have d11 : decide ((k : Int) = 10) = true := decide_eq_true (by omega)
                          subst h10
                          go_wp2_with (first
                            | (go_at_call 23; (with_reducible refine HAL.out.mono ?_); rintro e z2 ⟨rfl, hbz2⟩; have HBZ2 := hid hbz2; clear hbz2)
                            | (go_at_call 12; (with_reducible refine (copy_nil _).mono ?_); rintro e z3 ⟨rfl, rfl⟩; skip)
                            | (go_at_call 13; (with_reducible refine (rcopy_nil _).mono ?_); rintro e z3 ⟨rfl, rfl⟩; skip)
                            | fail)
                          go_roundw
                          case rel => exact ⟨11, rfl, rfl, by go_num, HKL.out, by have := HK1.out; omega, HBZ.out.trans (HBZ2.out.mono HBZ.out.size)⟩
                          case measure => have := HKL.out; simp [intOf]; omega
                        · have d10 : ((k : Int) == 10) = false := by simp; omega
                          have d11 : decide ((k : Int) = 10) = false := decide_eq_false (by omega)
                          have hk40 := HK1.out
                          go_wp2_with (first
                            | (go_at_call 23; (with_reducible refine HAL.out.mono ?_); rintro e z2 ⟨rfl, hbz2⟩; have HBZ2 := hid hbz2; clear hbz2)
                            | fail)
                          go_roundw
                          case rel => exact ⟨k + 1, rfl, rfl, by go_num, HKL.out, by have := HK1.out; omega, HBZ.out.trans (HBZ2.out.mono HBZ.out.size)⟩
                          case measure => have := HKL.out; simp [intOf]; omega
      · have hki : ¬ (k : Int) < (len2 : Int) := by omega
        clear hB hk hk1
        have HAL := hid (alike_nil wr a3)
        go_wp2_with (first
          | (go_at_call 23; (with_reducible refine HAL.out.mono ?_); rintro e we ⟨rfl, hbe⟩; have HBE := hid hbe; clear hbe)
          | fail)
        go_ret
        exact ⟨rfl, HB.out.trans (HBE.out.mono HB.out.size)⟩

/-! ### THE ROW's STEP -/
set_option maxRecDepth 100000 in
theorem lifted (os : Os) (started : os.Started) (H : Type) (enc : TypeId × Value → H) :
    ReturnsInHanded {} Try.checked os 3 .any (Rows.rowsPlaysSpec.pre6 enc Try.prog Try.f3 Rows.rowsPlaysRow.domain false) (Rows.rowsPlaysSpec.post enc Try.prog Try.f3 false true false false) := by
  refine returnsInHanded_of_change (C := Try.checked) own started (by kernel_rfl) Try.func3
    (ChangeSpec.witness6 (enc := enc) (C := Try.checked) false ⟨#[], #[.int .i64 0, .int .i64 0, .slice none 0 0, .int .i64 0], []⟩ 8 (by kernel_rfl) (by kernel_rfl) (by kernel_rfl) (by kernel_rfl)) ?_
  intro W base args ds gs before hval0 hW hcnd _
  have hval : ∀ (j : Nat) t v, Try.f3.params[j]? = some t → args[j]? = some v → Value.okWide Try.prog W .any base t v := hval0
  have hW' := hW
  obtain ⟨p, q, hA0, hV, rfl, hfz, hnd⟩ := hW
  have hA : DataW.TrodAll enc Try.prog W 0 (fun _ => true) true Try.f3.params.toList args.toList ds p := hA0
  rw [Try.params3] at hA hval
  obtain ⟨v0, vs0, d0, ds0, p0, q0, hargs, rfl, rfl, h0, r0⟩ := trodAll_cons hA
  obtain ⟨v1, vs1, d1, ds1, p1, q1, rfl, rfl, rfl, h1, r1⟩ := trodAll_cons r0
  obtain ⟨v2, vs2, d2, ds2, p2, q2, rfl, rfl, rfl, h2, r2⟩ := trodAll_cons r1
  obtain ⟨v3, vs3, d3, ds3, p3, q3, rfl, rfl, rfl, h3, r3⟩ := trodAll_cons r2
  obtain ⟨rfl, rfl, rfl⟩ := trodAll_nil r3
  obtain rfl : args = #[v0, v1, v2, v3] := by cases args; simp_all
  obtain ⟨rfl, rfl⟩ := trodVars_none hV
  have k0 := h0
  have lt0 : ∀ x ∈ p0, x.block < W.heap.size := by obtain ⟨m, hm⟩ := k0; exact DataW.trod_lt m _ _ _ hm
  have k1 := h1
  have lt1 : ∀ x ∈ p1, x.block < W.heap.size := by obtain ⟨m, hm⟩ := k1; exact DataW.trod_lt m _ _ _ hm
  have k2 := h2
  have lt2 : ∀ x ∈ p2, x.block < W.heap.size := by obtain ⟨m, hm⟩ := k2; exact DataW.trod_lt m _ _ _ hm
  have k3 := h3
  have lt3 : ∀ x ∈ p3, x.block < W.heap.size := by obtain ⟨m, hm⟩ := k3; exact DataW.trod_lt m _ _ _ hm
  obtain ⟨a0, rfl, rfl, rfl, w0⟩ := open_int Try.underlying3 (hval 0 3 v0 rfl rfl) h0
  obtain ⟨a1, rfl, rfl, rfl, w1⟩ := open_int Try.underlying3 (hval 1 3 v1 rfl rfl) h1
  obtain ⟨a2, len2, cap2, rfl⟩ := okWide_slice Try.underlying22 (hval 2 22 v2 rfl rfl)
  have w2 : IsOps12 W a2 len2 cap2 := isOps12_of h2
  obtain ⟨a3, rfl, rfl, rfl, w3⟩ := open_int Try.underlying3 (hval 3 3 v3 rfl rfl) h3
  clear hA0 hval0
  refine (walk a0 a1 a2 len2 cap2 a3 W w0 w1 w2 w3).mono fun e W' ⟨he, bel⟩ => ?_
  subst he
  exact ⟨_, rfl, _, _, _, [], _, [], hW', trodAll_mk1 (shut_bool Try.underlying4 _), (trodAll_cons_mk (Below.trod laidOut (by kernel_rfl) (of_decide_eq_true (by kernel_rfl)) k0 bel lt0) (trodAll_cons_mk (Below.trod laidOut (by kernel_rfl) (of_decide_eq_true (by kernel_rfl)) k1 bel lt1) (trodAll_cons_mk (Below.trod laidOut (by kernel_rfl) (of_decide_eq_true (by kernel_rfl)) k2 bel lt2) (trodAll_cons_mk (Below.trod laidOut (by kernel_rfl) (of_decide_eq_true (by kernel_rfl)) k3 bel lt3) trodAll_mk0)))), rfl, bel.frame _, fun h => by cases h⟩

theorem over : Rows.rowsPlaysRow.holds Try.pinned (OpenSpec.ofChange Rows.rowsPlaysSpec) :=
  OpenClaim.holds_of_wide 3 Try.f3 rfl rfl rfl rfl rfl rfl rfl ⟨rfl, rfl, rfl, rfl, rfl⟩ rfl rfl rfl rfl rfl (by kernel_rfl) Try.func3 (by kernel_rfl)
    (of_decide_eq_true (by kernel_rfl)) (by unfold Func.isWrapper; first | (rw [if_pos (by decide +kernel)]; kernel_rfl) | (rw [if_neg (by decide +kernel)]; exact ⟨rfl, rfl⟩))
    (fun os started H enc _ => lifted os started H enc)

/-- THE STATEMENT -/
theorem rowsPlays_holds : Rows.RowsPlaysSaid := over
#print axioms rowsPlays_holds
end Go.Proofs.Ytdongghjchnpbaa.rowsPlays
