/-
  a job that is placed and removed leaves all as it was
  (The frame behind the walk is the guide's shell, at these parameters.)
-/
import Derived.Test.YtlobnipeplnodaaRows
import Derived.WalkKit
import Derived.Test.YtlobnipeplnodaaRowB
import Derived.Test.YtlobnipeplnodaaRowJb
import Derived.Test.YtlobnipeplnodaaRowX
import Derived.ProofKit
import Derived.Deep.Cut
import Derived.Deep.CutRange
import Derived.Deep.CutBlock
import Derived.Deep.Grids
import Derived.OpenShut
import Derived.ShutString
import Derived.ChangeOld
import Derived.Below
namespace Go.Proofs.Ytlobnipeplnodaa.rowsBack
open Go.ChangeShapes Go.WideShapes Go.ChangeAt Go.RowKit
open Go.ChangeMaps (open_string shut_string)
set_option linter.unusedVariables false

theorem own : ownKnob Try.prog.godebug = none := by kernel_rfl
theorem laidOut : laidOutB Try.prog = true := by kernel_rfl

theorem Mx.all_same : ∀ {a b : Mx}, a.r = b.r → a.n = b.n → a.c = b.c → a.d = b.d → a = b
  | ⟨_, _, _, _⟩, ⟨_, _, _, _⟩, rfl, rfl, rfl, rfl => rfl
theorem back_same {m : Mx} (hn : m.n ≤ 16) {row k j : Nat} (hj : j ≠ 0) (h0 : m.own row j = []) :
    (m.stand row ((m.free row).take k) j).stand row ((m.stand row ((m.free row).take k) j).own row j) 0 = m := by
  rw [own_stand_self hn h0]
  have e1 := (Mx.stand_r (m.stand row ((m.free row).take k) j) row ((m.free row).take k) 0).trans (Mx.stand_r m row ((m.free row).take k) j)
  have e2 := (Mx.stand_n (m.stand row ((m.free row).take k) j) row ((m.free row).take k) 0).trans (Mx.stand_n m row ((m.free row).take k) j)
  have e3 := (Mx.stand_d (m.stand row ((m.free row).take k) j) row ((m.free row).take k) 0).trans (Mx.stand_d m row ((m.free row).take k) j)
  have e4 : ((m.stand row ((m.free row).take k) j).stand row ((m.free row).take k) 0).c = m.c := by
    funext i
    rw [Mx.stand_c, Mx.stand_c]
    by_cases h : ∃ n ∈ (m.free row).take k, i = 16 * row + n
    · rw [if_pos h]
      obtain ⟨n, hx, rfl⟩ := h
      exact ((free_mem.1 (List.mem_of_mem_take hx)).2.1).symm
    · rw [if_neg h, if_neg h]
  exact Mx.all_same e1 e2 e4 e3

set_option maxRecDepth 100000 in
set_option maxHeartbeats 8000000 in
theorem walk (a0 : Int) (a1 : Int) (a2 : Option Addr) (len2 cap2 : Nat) (z2 : List Int) (a3 : Option Addr) (len3 cap3 : Nat) (z3 : List Int) (a4 : Int) (w : World) (w0 : (Lit.int .u8 a0).wf = true) (w1 : (Lit.int .u8 a1).wf = true) (w2 : IsRow .u8 w a2 len2 cap2 z2) (w3 : IsRow .u8 w a3 len3 cap3 z3) (w4 : (Lit.int .u8 a4).wf = true) :
    Calls Try.prog 7 #[.int .u8 a0, .int .u8 a1, .slice a2 len2 cap2, .slice a3 len3 cap3, .int .u8 a4] w fun e w' => e = .returned (.bool true) ∧ Below w.heap.size w w' := by
  obtain ⟨ws, hwl, hwr, hw8⟩ := w2.rdn
  obtain ⟨gs, hgl, hgr, hg8⟩ := w3.rdn
  have bd0 := bounds_u8 w0
  have bd1 := bounds_u8 w1
  have bd4 := bounds_u8 w4
  obtain ⟨r0, rfl⟩ := Int.eq_ofNat_of_zero_le (show 0 ≤ a0 by omega)
  obtain ⟨n0, rfl⟩ := Int.eq_ofNat_of_zero_le (show 0 ≤ a1 by omega)
  obtain ⟨k0, rfl⟩ := Int.eq_ofNat_of_zero_le (show 0 ≤ a4 by omega)
  have HWR := hid hwr
  have HGR := hid hgr
  have HW8 := hid hw8
  have HG8 := hid hg8
  obtain ⟨q, hq⟩ : ∃ q, q = k0 % 16 := ⟨_, rfl⟩
  obtain ⟨k, hk⟩ : ∃ k, k = q + 1 := ⟨_, rfl⟩
  have e1 : (k0 : Int) % 16 = (q : Int) := by omega
  have e2 : (k0 : Int).tmod 16 = (q : Int) := by rw [Int.tmod_eq_emod_of_nonneg (by omega)]; exact e1
  have e3 : 1 + (q : Int) = (k : Int) := by omega
  have e4 : (q : Int) < 16 := by omega
  have HK := hid hk
  have HR0 := hid (show r0 < 256 by omega)
  have HN0 := hid (show n0 < 256 by omega)
  clear w0 w1 w2 w3 w4 hwl hwr hw8 hgl hgr hg8 bd0 bd1 bd4 hq hk
  go_enter Try.func7, Try.ntmps7
  go_wp2_with fail
  refine (awake12_any w).mono ?_
  rintro e wa ⟨rfl, hba⟩
  have HBA := hid hba
  have hsa := hba.size
  clear hba
  go_wp2_with fail
  refine (build_any wa r0 n0 HR0.out HN0.out (.slice a2 len2 cap2) (.slice a3 len3 cap3) ws gs (HWR.out.all HBA.out) (HGR.out.all HBA.out) HW8.out HG8.out).mono ?_
  rintro e wb ⟨b, kk, rfl, hbb, m, hm, hbu, hmr, hmn, hBb, -⟩
  have HM := hid hm
  have HBU := hid hbu
  have HBB := hid hBb
  have hsb := hBb.size
  have hlt := hm.lt
  clear hm hbu hmr hmn hBb
  go_wp2_with fail
  refine (copy_any wb b m HM.out).mono ?_
  rintro e wc ⟨rfl, hmc, hBc⟩
  have HMC := hid hmc
  have HBC := hid hBc
  have hsc := hmc.lt
  have HM2 := hid (HM.out.below hBc hlt)
  have HWN := hid (show m.where 2000 = none from where_none_of fun i hi => by
    apply Classical.byContradiction
    intro hne
    have := (HBU.out.wide 2000 i (by omega) hi hne).1
    omega)
  have HKP := hid (show Below w.heap.size w wc from HBA.out.trans ((HBB.out.mono (by omega)).trans (hBc.mono (by omega))))
  clear hmc hBc
  have hk1 : 1 ≤ k := by have := HK.out; omega
  by_cases hwide : m.n < k
  · have HX := hid (show (m.n : Int) < (k : Int) by omega)
    have HK1 := hid (show (1 : Int) ≤ (k : Int) by omega)
    clear hwide hk1
    go_wp2_with fail
    refine (place_wide wc wb.heap.size 2000 k m HMC.out (by omega) HK1.out HWN.out HX.out).mono ?_
    rintro e wd ⟨rfl, hd⟩
    have HD := hid (show Below w.heap.size w wd from HKP.out.trans (hd.mono (by omega)))
    have HMD := hid (HM2.out.below hd HM2.out.lt)
    have HMD2 := hid (HMC.out.below hd HMC.out.lt)
    have hsd := hd.size
    clear hd
    go_wp2_with fail
    refine (size_any wd b m HMD.out).mono ?_
    rintro e wz ⟨rfl, nd, hwz⟩
    have hbz : Below wd.heap.size wd wz := by rw [hwz]; exact ⟨rfl, rfl, rfl, Nat.le_refl _, fun _ _ => rfl⟩
    have HZ1 := hid (HMD.out.below hbz HMD.out.lt)
    have HZ2 := hid (HMD2.out.below hbz HMD2.out.lt)
    have HZB := hid (show Below w.heap.size w wz from HD.out.trans (hbz.mono HD.out.size))
    clear hbz hwz
    have r8 := HZ1.out.r8
    have n16 := HZ1.out.n16
    go_wp2_with fail
    go_loopw [56] (fun i wr => ∃ c : Nat, c ≤ m.r ∧ i = .int .i64 c ∧ Below wz.heap.size wz wr) (fun i _ => m.r - (intOf i).toNat)
    case atStart => exact ⟨0, Nat.zero_le _, rfl, Below.refl _ _⟩
    case round =>
      obtain ⟨c, hc, rfl, hB⟩ := hrel
      have HB := hid hB
      have HR1 := hid (HZ1.out.below hB HZ1.out.lt)
      have HR2 := hid (HZ2.out.below hB HZ2.out.lt)
      have hsr := hB.size
      clear hB
      by_cases hcr : c < m.r
      · have hci : (c : Int) < (m.r : Int) := by omega
        go_wp2_with fail
        refine (free_any wr wb.heap.size c m HR2.out hcr).mono ?_
        rintro e w6 ⟨rfl, hb6⟩
        have HR3 := hid (HR1.out.below hb6 HR1.out.lt)
        have HR4 := hid (HR2.out.below hb6 HR2.out.lt)
        have hs6 := hb6.size
        have HB6 := hid hb6
        clear hb6
        go_wp2_with fail
        refine (free_any w6 b c m HR3.out hcr).mono ?_
        rintro e w7 ⟨rfl, hb7⟩
        have HR5 := hid (HR3.out.below hb7 HR3.out.lt)
        have HR6 := hid (HR4.out.below hb7 HR4.out.lt)
        have hs7 := hb7.size
        have HB7 := hid (show Below wz.heap.size wz w7 from HB.out.trans ((HB6.out.mono hsr).trans (hb7.mono (by omega))))
        clear hb7
        generalize (m.free c).length = fl at *
        go_wp2_with fail
        obtain ⟨wq, hwq⟩ : ∃ wq, wq = w7 := ⟨_, rfl⟩
        subst hwq
        go_loopw [67] (fun i wr' => ∃ x : Nat, x ≤ m.n ∧ i = .int .i64 x ∧ wr' = wq) (fun i _ => m.n - (intOf i).toNat)
        case atStart => exact ⟨0, Nat.zero_le _, rfl, rfl⟩
        case round =>
          obtain ⟨x, hx, rfl, hwr⟩ := hrel
          have HWQ := hid hwr
          subst hwr
          by_cases hxn : x < m.n
          · have hxi : (x : Int) < (m.n : Int) := by omega
            go_wp2_with fail
            refine (at_yes _ wb.heap.size m c x HR6.out hcr hxn).mono ?_
            rintro e w8 ⟨rfl, rfl⟩
            go_wp2_with fail
            refine (at_yes _ b m c x HR5.out hcr hxn).mono ?_
            rintro e w8 ⟨rfl, rfl⟩
            generalize m.c (16 * c + x) = cx at *
            go_wp2
            go_roundw
            case rel => exact ⟨x + 1, hxn, by go_num, trivial⟩
            case measure => simp [intOf]; omega
          · have hxi : ¬ (x : Int) < (m.n : Int) := by omega
            clear hxn
            go_wp2_with fail
            go_roundw
            case rel => exact ⟨c + 1, hcr, by go_num, HB7.out⟩
            case measure => simp [intOf]; omega
      · have hci : ¬ (c : Int) < (m.r : Int) := by omega
        clear hcr
        go_wp2_with fail
        refine (jobs_any wr wb.heap.size m HR2.out).mono ?_
        rintro e w6 ⟨v1, rfl, hv1, hb6⟩
        have HV1 := hid (RdV.of_own hv1)
        have HR3 := hid (HR1.out.below hb6 HR1.out.lt)
        have hs6 := hb6.size
        have HB6 := hid (show Below wz.heap.size wz w6 from HB.out.trans (hb6.mono hsr))
        clear hb6 hv1
        go_wp2_with fail
        refine (jobs_any w6 b m HR3.out).mono ?_
        rintro e w7 ⟨v2, rfl, hv2, hb7⟩
        have HV2 := hid (RdV.of_own hv2)
        have HV3 := hid (HV1.out.all hb7)
        have hs7 := hb7.size
        have HB7 := hid (show Below wz.heap.size wz w7 from HB6.out.trans (hb7.mono (by omega)))
        clear hb7 hv2
        go_wp2_with fail
        refine (same_any w7 v1 v2 m.jobs m.jobs HV3.out HV2.out).mono ?_
        rintro e w8 ⟨rfl, hb8⟩
        have HB8 := hid (show Below w.heap.size w w8 from HZB.out.trans ((HB7.out.mono HZB.out.size).trans (hb8.mono (by have := HZB.out.size; omega))))
        clear hb8
        rw [decide_eq_true rfl]
        go_wp2_with fail
        go_ret
        exact ⟨rfl, HB8.out⟩

  cases hroom : m.room k 0 m.r with
  | none =>
    have HX := hid (show k ≤ m.n by omega)
    have HK1 := hid hk1
    have HRO := hid hroom
    clear hwide hroom hk1
    go_wp2_with fail
    refine (place_full wc wb.heap.size 2000 k m HMC.out (by omega) HK1.out HWN.out HX.out HRO.out).mono ?_
    rintro e wd ⟨rfl, hd⟩
    have HD := hid (show Below w.heap.size w wd from HKP.out.trans (hd.mono (by omega)))
    have HMD := hid (HM2.out.below hd HM2.out.lt)
    have HMD2 := hid (HMC.out.below hd HMC.out.lt)
    have hsd := hd.size
    clear hd
    go_wp2_with fail
    refine (size_any wd b m HMD.out).mono ?_
    rintro e wz ⟨rfl, nd, hwz⟩
    have hbz : Below wd.heap.size wd wz := by rw [hwz]; exact ⟨rfl, rfl, rfl, Nat.le_refl _, fun _ _ => rfl⟩
    have HZ1 := hid (HMD.out.below hbz HMD.out.lt)
    have HZ2 := hid (HMD2.out.below hbz HMD2.out.lt)
    have HZB := hid (show Below w.heap.size w wz from HD.out.trans (hbz.mono HD.out.size))
    clear hbz hwz
    have r8 := HZ1.out.r8
    have n16 := HZ1.out.n16
    go_wp2_with fail
    go_loopw [56] (fun i wr => ∃ c : Nat, c ≤ m.r ∧ i = .int .i64 c ∧ Below wz.heap.size wz wr) (fun i _ => m.r - (intOf i).toNat)
    case atStart => exact ⟨0, Nat.zero_le _, rfl, Below.refl _ _⟩
    case round =>
      obtain ⟨c, hc, rfl, hB⟩ := hrel
      have HB := hid hB
      have HR1 := hid (HZ1.out.below hB HZ1.out.lt)
      have HR2 := hid (HZ2.out.below hB HZ2.out.lt)
      have hsr := hB.size
      clear hB
      by_cases hcr : c < m.r
      · have hci : (c : Int) < (m.r : Int) := by omega
        go_wp2_with fail
        refine (free_any wr wb.heap.size c m HR2.out hcr).mono ?_
        rintro e w6 ⟨rfl, hb6⟩
        have HR3 := hid (HR1.out.below hb6 HR1.out.lt)
        have HR4 := hid (HR2.out.below hb6 HR2.out.lt)
        have hs6 := hb6.size
        have HB6 := hid hb6
        clear hb6
        go_wp2_with fail
        refine (free_any w6 b c m HR3.out hcr).mono ?_
        rintro e w7 ⟨rfl, hb7⟩
        have HR5 := hid (HR3.out.below hb7 HR3.out.lt)
        have HR6 := hid (HR4.out.below hb7 HR4.out.lt)
        have hs7 := hb7.size
        have HB7 := hid (show Below wz.heap.size wz w7 from HB.out.trans ((HB6.out.mono hsr).trans (hb7.mono (by omega))))
        clear hb7
        generalize (m.free c).length = fl at *
        go_wp2_with fail
        obtain ⟨wq, hwq⟩ : ∃ wq, wq = w7 := ⟨_, rfl⟩
        subst hwq
        go_loopw [67] (fun i wr' => ∃ x : Nat, x ≤ m.n ∧ i = .int .i64 x ∧ wr' = wq) (fun i _ => m.n - (intOf i).toNat)
        case atStart => exact ⟨0, Nat.zero_le _, rfl, rfl⟩
        case round =>
          obtain ⟨x, hx, rfl, hwr⟩ := hrel
          have HWQ := hid hwr
          subst hwr
          by_cases hxn : x < m.n
          · have hxi : (x : Int) < (m.n : Int) := by omega
            go_wp2_with fail
            refine (at_yes _ wb.heap.size m c x HR6.out hcr hxn).mono ?_
            rintro e w8 ⟨rfl, rfl⟩
            go_wp2_with fail
            refine (at_yes _ b m c x HR5.out hcr hxn).mono ?_
            rintro e w8 ⟨rfl, rfl⟩
            generalize m.c (16 * c + x) = cx at *
            go_wp2
            go_roundw
            case rel => exact ⟨x + 1, hxn, by go_num, trivial⟩
            case measure => simp [intOf]; omega
          · have hxi : ¬ (x : Int) < (m.n : Int) := by omega
            clear hxn
            go_wp2_with fail
            go_roundw
            case rel => exact ⟨c + 1, hcr, by go_num, HB7.out⟩
            case measure => simp [intOf]; omega
      · have hci : ¬ (c : Int) < (m.r : Int) := by omega
        clear hcr
        go_wp2_with fail
        refine (jobs_any wr wb.heap.size m HR2.out).mono ?_
        rintro e w6 ⟨v1, rfl, hv1, hb6⟩
        have HV1 := hid (RdV.of_own hv1)
        have HR3 := hid (HR1.out.below hb6 HR1.out.lt)
        have hs6 := hb6.size
        have HB6 := hid (show Below wz.heap.size wz w6 from HB.out.trans (hb6.mono hsr))
        clear hb6 hv1
        go_wp2_with fail
        refine (jobs_any w6 b m HR3.out).mono ?_
        rintro e w7 ⟨v2, rfl, hv2, hb7⟩
        have HV2 := hid (RdV.of_own hv2)
        have HV3 := hid (HV1.out.all hb7)
        have hs7 := hb7.size
        have HB7 := hid (show Below wz.heap.size wz w7 from HB6.out.trans (hb7.mono (by omega)))
        clear hb7 hv2
        go_wp2_with fail
        refine (same_any w7 v1 v2 m.jobs m.jobs HV3.out HV2.out).mono ?_
        rintro e w8 ⟨rfl, hb8⟩
        have HB8 := hid (show Below w.heap.size w w8 from HZB.out.trans ((HB7.out.mono HZB.out.size).trans (hb8.mono (by have := HZB.out.size; omega))))
        clear hb8
        rw [decide_eq_true rfl]
        go_wp2_with fail
        go_ret
        exact ⟨rfl, HB8.out⟩

  | some row =>
    have HX := hid (show k ≤ m.n by omega)
    have HK1 := hid hk1
    have HRO := hid hroom
    obtain ⟨-, hr2, hrk, hbef⟩ := Mx.room_some _ _ _ hroom
    have hrow : row < m.r := by omega
    have hr8 := HM.out.r8
    have hn16 := HM.out.n16
    have h0 : m.own row 2000 = [] := by
      apply Classical.byContradiction
      intro hne
      have := (HBU.out.wide 2000 row (by omega) hrow hne).1
      omega
    have hself : (m.stand row ((m.free row).take k) 2000).own row 2000 = (m.free row).take k := own_stand_self hn16 h0
    have HWS := hid (show (m.stand row ((m.free row).take k) 2000).where 2000 = some row by
      unfold Mx.where
      rw [if_neg (by omega)]
      refine Mx.find_of _ _ (Nat.zero_le _) (by rw [Mx.stand_r]; omega) (by rw [hself]; intro he; have := congrArg List.length he; rw [List.length_take, List.length_nil] at this; omega) (fun i _ hi => ?_)
      rw [own_stand_row hn16 (by omega)]
      apply Classical.byContradiction
      intro hne
      have := (HBU.out.wide 2000 i (by omega) (by omega) hne).1
      omega)
    have HSAME := hid (back_same (k := k) hn16 (show (2000 : Nat) ≠ 0 by omega) h0)
    clear hwide hroom hk1 hr2 hrk hbef h0 hself
    go_wp2_with fail
    refine (place_yes wc wb.heap.size 2000 k row m HMC.out (by omega) (by omega) HK1.out HWN.out HX.out HRO.out).mono ?_
    rintro e wd ⟨v, rfl, hv, hmd, hkd⟩
    have HKD := hid hkd
    have hsd := hkd.size
    have HMD := hid (HM2.out.block (hkd.block b (by omega) (by omega)))
    have HBD := hid (show Below w.heap.size w wd from HKP.out.trans (hkd.below (by omega) (fun i hi => by omega)))
    have HPD := hid hmd
    clear hmd hkd hv
    go_wp2_with fail
    refine (remove_yes wd wb.heap.size 2000 row _ HPD.out HWS.out).mono ?_
    rintro e we ⟨rfl, hme, hke⟩
    rw [HSAME.out] at hme
    have HME2 := hid hme
    have HME := hid (HMD.out.block (hke.block b (by have := HMD.out.lt; omega) (by omega)))
    have HBE := hid (show Below w.heap.size w we from HBD.out.trans (hke.below (by have := HBD.out.size; omega) (fun i hi => by omega)))
    clear hme hke
    go_wp2_with fail
    refine (size_any we b m HME.out).mono ?_
    rintro e wz ⟨rfl, nd, hwz⟩
    have hbz : Below we.heap.size we wz := by rw [hwz]; exact ⟨rfl, rfl, rfl, Nat.le_refl _, fun _ _ => rfl⟩
    have HZ1 := hid (HME.out.below hbz HME.out.lt)
    have HZ2 := hid (HME2.out.below hbz HME2.out.lt)
    have HZB := hid (show Below w.heap.size w wz from HBE.out.trans (hbz.mono HBE.out.size))
    clear hbz hwz
    have r8 := HZ1.out.r8
    have n16 := HZ1.out.n16
    go_wp2_with fail
    go_loopw [56] (fun i wr => ∃ c : Nat, c ≤ m.r ∧ i = .int .i64 c ∧ Below wz.heap.size wz wr) (fun i _ => m.r - (intOf i).toNat)
    case atStart => exact ⟨0, Nat.zero_le _, rfl, Below.refl _ _⟩
    case round =>
      obtain ⟨c, hc, rfl, hB⟩ := hrel
      have HB := hid hB
      have HR1 := hid (HZ1.out.below hB HZ1.out.lt)
      have HR2 := hid (HZ2.out.below hB HZ2.out.lt)
      have hsr := hB.size
      clear hB
      by_cases hcr : c < m.r
      · have hci : (c : Int) < (m.r : Int) := by omega
        go_wp2_with fail
        refine (free_any wr wb.heap.size c m HR2.out hcr).mono ?_
        rintro e w6 ⟨rfl, hb6⟩
        have HR3 := hid (HR1.out.below hb6 HR1.out.lt)
        have HR4 := hid (HR2.out.below hb6 HR2.out.lt)
        have hs6 := hb6.size
        have HB6 := hid hb6
        clear hb6
        go_wp2_with fail
        refine (free_any w6 b c m HR3.out hcr).mono ?_
        rintro e w7 ⟨rfl, hb7⟩
        have HR5 := hid (HR3.out.below hb7 HR3.out.lt)
        have HR6 := hid (HR4.out.below hb7 HR4.out.lt)
        have hs7 := hb7.size
        have HB7 := hid (show Below wz.heap.size wz w7 from HB.out.trans ((HB6.out.mono hsr).trans (hb7.mono (by omega))))
        clear hb7
        generalize (m.free c).length = fl at *
        go_wp2_with fail
        obtain ⟨wq, hwq⟩ : ∃ wq, wq = w7 := ⟨_, rfl⟩
        subst hwq
        go_loopw [67] (fun i wr' => ∃ x : Nat, x ≤ m.n ∧ i = .int .i64 x ∧ wr' = wq) (fun i _ => m.n - (intOf i).toNat)
        case atStart => exact ⟨0, Nat.zero_le _, rfl, rfl⟩
        case round =>
          obtain ⟨x, hx, rfl, hwr⟩ := hrel
          have HWQ := hid hwr
          subst hwr
          by_cases hxn : x < m.n
          · have hxi : (x : Int) < (m.n : Int) := by omega
            go_wp2_with fail
            refine (at_yes _ wb.heap.size m c x HR6.out hcr hxn).mono ?_
            rintro e w8 ⟨rfl, rfl⟩
            go_wp2_with fail
            refine (at_yes _ b m c x HR5.out hcr hxn).mono ?_
            rintro e w8 ⟨rfl, rfl⟩
            generalize m.c (16 * c + x) = cx at *
            go_wp2
            go_roundw
            case rel => exact ⟨x + 1, hxn, by go_num, trivial⟩
            case measure => simp [intOf]; omega
          · have hxi : ¬ (x : Int) < (m.n : Int) := by omega
            clear hxn
            go_wp2_with fail
            go_roundw
            case rel => exact ⟨c + 1, hcr, by go_num, HB7.out⟩
            case measure => simp [intOf]; omega
      · have hci : ¬ (c : Int) < (m.r : Int) := by omega
        clear hcr
        go_wp2_with fail
        refine (jobs_any wr wb.heap.size m HR2.out).mono ?_
        rintro e w6 ⟨v1, rfl, hv1, hb6⟩
        have HV1 := hid (RdV.of_own hv1)
        have HR3 := hid (HR1.out.below hb6 HR1.out.lt)
        have hs6 := hb6.size
        have HB6 := hid (show Below wz.heap.size wz w6 from HB.out.trans (hb6.mono hsr))
        clear hb6 hv1
        go_wp2_with fail
        refine (jobs_any w6 b m HR3.out).mono ?_
        rintro e w7 ⟨v2, rfl, hv2, hb7⟩
        have HV2 := hid (RdV.of_own hv2)
        have HV3 := hid (HV1.out.all hb7)
        have hs7 := hb7.size
        have HB7 := hid (show Below wz.heap.size wz w7 from HB6.out.trans (hb7.mono (by omega)))
        clear hb7 hv2
        go_wp2_with fail
        refine (same_any w7 v1 v2 m.jobs m.jobs HV3.out HV2.out).mono ?_
        rintro e w8 ⟨rfl, hb8⟩
        have HB8 := hid (show Below w.heap.size w w8 from HZB.out.trans ((HB7.out.mono HZB.out.size).trans (hb8.mono (by have := HZB.out.size; omega))))
        clear hb8
        rw [decide_eq_true rfl]
        go_wp2_with fail
        go_ret
        exact ⟨rfl, HB8.out⟩

/-! ### THE ROW's STEP -/
set_option maxRecDepth 100000 in
theorem lifted (os : Os) (started : os.Started) (H : Type) (enc : TypeId × Value → H) :
    ReturnsInHanded {} Try.checked os 7 .any (Rows.rowsBackSpec.pre6 enc Try.prog Try.f7 Rows.rowsBackRow.domain false) (Rows.rowsBackSpec.post enc Try.prog Try.f7 false true false false) := by
  refine returnsInHanded_of_change (C := Try.checked) own started (by kernel_rfl) Try.func7
    (ChangeSpec.witness6 (enc := enc) (C := Try.checked) false ⟨#[], #[.int .u8 0, .int .u8 0, .slice none 0 0, .slice none 0 0, .int .u8 0], []⟩ 8 (by kernel_rfl) (by kernel_rfl) (by kernel_rfl) (by kernel_rfl)) ?_
  intro W base args ds gs before hval0 hW hcnd _
  have hval : ∀ (j : Nat) t v, Try.f7.params[j]? = some t → args[j]? = some v → Value.okWide Try.prog W .any base t v := hval0
  have hW' := hW
  obtain ⟨p, q, hA0, hV, rfl, hfz, hnd⟩ := hW
  have hA : DataW.TrodAll enc Try.prog W 0 (fun _ => true) true Try.f7.params.toList args.toList ds p := hA0
  rw [Try.params7] at hA hval
  obtain ⟨v0, vs0, d0, ds0, p0, q0, hargs, rfl, rfl, h0, r0⟩ := trodAll_cons hA
  obtain ⟨v1, vs1, d1, ds1, p1, q1, rfl, rfl, rfl, h1, r1⟩ := trodAll_cons r0
  obtain ⟨v2, vs2, d2, ds2, p2, q2, rfl, rfl, rfl, h2, r2⟩ := trodAll_cons r1
  obtain ⟨v3, vs3, d3, ds3, p3, q3, rfl, rfl, rfl, h3, r3⟩ := trodAll_cons r2
  obtain ⟨v4, vs4, d4, ds4, p4, q4, rfl, rfl, rfl, h4, r4⟩ := trodAll_cons r3
  obtain ⟨rfl, rfl, rfl⟩ := trodAll_nil r4
  obtain rfl : args = #[v0, v1, v2, v3, v4] := by cases args; simp_all
  obtain ⟨rfl, rfl⟩ := trodVars_none hV
  have k0 := h0
  have lt0 : ∀ x ∈ p0, x.block < W.heap.size := by obtain ⟨m, hm⟩ := k0; exact DataW.trod_lt m _ _ _ hm
  have k1 := h1
  have lt1 : ∀ x ∈ p1, x.block < W.heap.size := by obtain ⟨m, hm⟩ := k1; exact DataW.trod_lt m _ _ _ hm
  have k2 := h2
  have lt2 : ∀ x ∈ p2, x.block < W.heap.size := by obtain ⟨m, hm⟩ := k2; exact DataW.trod_lt m _ _ _ hm
  have k3 := h3
  have lt3 : ∀ x ∈ p3, x.block < W.heap.size := by obtain ⟨m, hm⟩ := k3; exact DataW.trod_lt m _ _ _ hm
  have k4 := h4
  have lt4 : ∀ x ∈ p4, x.block < W.heap.size := by obtain ⟨m, hm⟩ := k4; exact DataW.trod_lt m _ _ _ hm
  obtain ⟨a0, rfl, rfl, rfl, w0⟩ := open_int Try.underlying5 (hval 0 5 v0 rfl rfl) h0
  obtain ⟨a1, rfl, rfl, rfl, w1⟩ := open_int Try.underlying5 (hval 1 5 v1 rfl rfl) h1
  obtain ⟨a2, len2, cap2, rfl⟩ := okWide_slice Try.underlying54 (hval 2 54 v2 rfl rfl)
  obtain ⟨z2, w2⟩ : ∃ zs, IsRow .u8 W a2 len2 cap2 zs := by
    obtain ⟨fuel, hf⟩ := h2
    rcases open_ints Try.underlying54 Try.underlying5 (by kernel_rfl) hf with ⟨hcs, _⟩ | ⟨x, l, c, zs, hcs, _, hl, hm, hz, _, hcell, hwz⟩
    · simp [Value.cells] at hcs
      obtain ⟨rfl, rfl, rfl⟩ := hcs
      exact ⟨[], .inl ⟨rfl, rfl, rfl, rfl⟩⟩
    · simp [Value.cells] at hcs
      obtain ⟨rfl, rfl, rfl⟩ := hcs
      exact ⟨zs, .inr ⟨_, rfl, hl, hm, by simpa using hz, hcell, hwz⟩⟩
  obtain ⟨a3, len3, cap3, rfl⟩ := okWide_slice Try.underlying54 (hval 3 54 v3 rfl rfl)
  obtain ⟨z3, w3⟩ : ∃ zs, IsRow .u8 W a3 len3 cap3 zs := by
    obtain ⟨fuel, hf⟩ := h3
    rcases open_ints Try.underlying54 Try.underlying5 (by kernel_rfl) hf with ⟨hcs, _⟩ | ⟨x, l, c, zs, hcs, _, hl, hm, hz, _, hcell, hwz⟩
    · simp [Value.cells] at hcs
      obtain ⟨rfl, rfl, rfl⟩ := hcs
      exact ⟨[], .inl ⟨rfl, rfl, rfl, rfl⟩⟩
    · simp [Value.cells] at hcs
      obtain ⟨rfl, rfl, rfl⟩ := hcs
      exact ⟨zs, .inr ⟨_, rfl, hl, hm, by simpa using hz, hcell, hwz⟩⟩
  obtain ⟨a4, rfl, rfl, rfl, w4⟩ := open_int Try.underlying5 (hval 4 5 v4 rfl rfl) h4
  clear hA0 hval0
  refine (walk a0 a1 a2 len2 cap2 z2 a3 len3 cap3 z3 a4 W w0 w1 w2 w3 w4).mono fun e W' ⟨he, bel⟩ => ?_
  subst he
  exact ⟨_, rfl, _, _, _, [], _, [], hW', trodAll_mk1 (shut_bool Try.underlying4 _), (trodAll_cons_mk (Below.trod laidOut (by kernel_rfl) (of_decide_eq_true (by kernel_rfl)) k0 bel lt0) (trodAll_cons_mk (Below.trod laidOut (by kernel_rfl) (of_decide_eq_true (by kernel_rfl)) k1 bel lt1) (trodAll_cons_mk (Below.trod laidOut (by kernel_rfl) (of_decide_eq_true (by kernel_rfl)) k2 bel lt2) (trodAll_cons_mk (Below.trod laidOut (by kernel_rfl) (of_decide_eq_true (by kernel_rfl)) k3 bel lt3) (trodAll_cons_mk (Below.trod laidOut (by kernel_rfl) (of_decide_eq_true (by kernel_rfl)) k4 bel lt4) trodAll_mk0))))), rfl, bel.frame _, fun h => by cases h⟩

theorem over : Rows.rowsBackRow.holds Try.pinned (OpenSpec.ofChange Rows.rowsBackSpec) :=
  OpenClaim.holds_of_wide 7 Try.f7 rfl rfl rfl rfl rfl rfl rfl ⟨rfl, rfl, rfl, rfl, rfl⟩ rfl rfl rfl rfl rfl (by kernel_rfl) Try.func7 (by kernel_rfl)
    (of_decide_eq_true (by kernel_rfl)) (by unfold Func.isWrapper; first | (rw [if_pos (by decide +kernel)]; kernel_rfl) | (rw [if_neg (by decide +kernel)]; exact ⟨rfl, rfl⟩))
    (fun os started H enc _ => lifted os started H enc)

/-- THE STATEMENT -/
theorem rowsBack_holds : Rows.RowsBackSaid := over
#print axioms rowsBack_holds
end Go.Proofs.Ytlobnipeplnodaa.rowsBack
