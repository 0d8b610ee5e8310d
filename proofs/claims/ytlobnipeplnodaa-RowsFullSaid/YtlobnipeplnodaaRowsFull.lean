/-
  a job is refused for want of room just if no row has so many free nodes that are up; then nothing has changed
  (The frame behind the walk is the guide's shell, at these parameters.)
-/
import Derived.Test.YtlobnipeplnodaaRows
import Derived.WalkKit
import Derived.Test.YtlobnipeplnodaaRowB
import Derived.Test.YtlobnipeplnodaaRowJb
import Derived.ProofKit
import Derived.Deep.Cut
import Derived.Deep.CutRange
import Derived.Deep.CutBlock
import Derived.Deep.Grids
import Derived.OpenShut
import Derived.ShutString
import Derived.ChangeOld
import Derived.Below
namespace Go.Proofs.Ytlobnipeplnodaa.rowsFull
open Go.ChangeShapes Go.WideShapes Go.ChangeAt Go.RowKit
open Go.ChangeMaps (open_string shut_string)
set_option linter.unusedVariables false

theorem own : ownKnob Try.prog.godebug = none := by kernel_rfl
theorem laidOut : laidOutB Try.prog = true := by kernel_rfl

/-- The same but for who is down. -/
def Alike (m m2 : Mx) : Prop := m2.r = m.r ∧ m2.n = m.n ∧ m2.c = m.c
theorem Alike.own {m m2 : Mx} (h : Alike m m2) (i j : Nat) : m2.own i j = m.own i j := own_congr h.2.1 fun k _ => by rw [h.2.2]

set_option maxRecDepth 100000 in
set_option maxHeartbeats 8000000 in
theorem walk (a0 : Int) (a1 : Int) (a2 : Option Addr) (len2 cap2 : Nat) (z2 : List Int) (a3 : Option Addr) (len3 cap3 : Nat) (z3 : List Int) (a4 : Int) (w : World) (w0 : (Lit.int .u8 a0).wf = true) (w1 : (Lit.int .u8 a1).wf = true) (w2 : IsRow .u8 w a2 len2 cap2 z2) (w3 : IsRow .u8 w a3 len3 cap3 z3) (w4 : (Lit.int .u8 a4).wf = true) :
    Calls Try.prog 6 #[.int .u8 a0, .int .u8 a1, .slice a2 len2 cap2, .slice a3 len3 cap3, .int .u8 a4] w fun e w' => e = .returned (.bool true) ∧ Below w.heap.size w w' := by
  obtain ⟨ws, hwl, hwr, hw8⟩ := w2.rdn
  obtain ⟨gs, hgl, hgr, hg8⟩ := w3.rdn
  have bd0 := bounds_u8 w0
  have bd1 := bounds_u8 w1
  have bd4 := bounds_u8 w4
  obtain ⟨r0, rfl⟩ := Int.eq_ofNat_of_zero_le (show 0 ≤ a0 by omega)
  obtain ⟨n0, rfl⟩ := Int.eq_ofNat_of_zero_le (show 0 ≤ a1 by omega)
  obtain ⟨k0, rfl⟩ := Int.eq_ofNat_of_zero_le (show 0 ≤ a4 by omega)
  have HWR := hid hwr
  have HGR := hid hgr
  have HW8 := hid hw8
  have HG8 := hid hg8
  obtain ⟨q, hq⟩ : ∃ q, q = k0 % 16 := ⟨_, rfl⟩
  obtain ⟨k, hk⟩ : ∃ k, k = q + 1 := ⟨_, rfl⟩
  have e1 : (k0 : Int) % 16 = (q : Int) := by omega
  have e2 : (k0 : Int).tmod 16 = (q : Int) := by rw [Int.tmod_eq_emod_of_nonneg (by omega)]; exact e1
  have e3 : 1 + (q : Int) = (k : Int) := by omega
  have e4 : (q : Int) < 16 := by omega
  have HK := hid hk
  have HR0 := hid (show r0 < 256 by omega)
  have HN0 := hid (show n0 < 256 by omega)
  clear w0 w1 w2 w3 w4 hwl hwr hw8 hgr hg8 bd0 bd1 bd4 hq hk
  subst hgl
  obtain ⟨ag, cg, hce, hcl, hcm⟩ := HGR.out.len
  rw [List.length_map] at hce hcl
  have hgl : gs.length ≤ 9223372036854775807 := by omega
  clear hce hcl hcm
  go_enter Try.func6, Try.ntmps6
  go_wp2_with fail
  refine (awake12_any w).mono ?_
  rintro e wa ⟨rfl, hba⟩
  have HBA := hid hba
  have hsa := hba.size
  clear hba
  go_wp2_with fail
  refine (build_any wa r0 n0 HR0.out HN0.out (.slice a2 len2 cap2) (.slice none 0 0) ws [] (HWR.out.all HBA.out) ⟨none, 0, rfl, Nat.le_refl _, by omega, fun j x hj => by simp at hj⟩ HW8.out (by intro x hx; cases hx)).mono ?_
  rintro e wb ⟨b, kk, rfl, hbb, m, hm, hbu, hmr, hmn, hBb, -⟩
  have HM := hid hm
  have HBU := hid hbu
  have HBB := hid hBb
  have hsb := hBb.size
  have hlt := hm.lt
  clear hm hbu hmr hmn hBb
  go_wp2_with fail
  refine (size_any wb b m HM.out).mono ?_
  rintro e wc ⟨rfl, nd, hwc⟩
  have hbc : Below wb.heap.size wb wc := by rw [hwc]; exact ⟨rfl, rfl, rfl, Nat.le_refl _, fun _ _ => rfl⟩
  have HMC := hid (HM.out.below hbc hlt)
  have HKP := hid (show Below w.heap.size w wc from HBA.out.trans ((HBB.out.mono (by omega)).trans (hbc.mono (by omega))))
  have n1 := HMC.out.n1
  have n16 := HMC.out.n16
  have r8 := HMC.out.r8
  have HBG := hid (show w.heap.size ≤ b by omega)
  clear hbc hwc hlt hsa hsb hbb
  go_wp2_with fail
  go_loopw [42] (fun i wr => ∃ (c : Nat) (m2 : Mx), c ≤ gs.length ∧ i = .int .i64 c ∧ MxAt wr b m2 ∧ Alike m m2 ∧ Below w.heap.size w wr) (fun i _ => gs.length - (intOf i).toNat)
  case atStart => exact ⟨0, m, Nat.zero_le _, rfl, HMC.out, ⟨rfl, rfl, rfl⟩, HKP.out⟩
  case round =>
    obtain ⟨c, m2, hc, rfl, hm2, hal, hB⟩ := hrel
    have HM2 := hid hm2
    have HAL := hid hal
    have HB := hid hB
    have hn2 := hal.2.1
    have hr2 := hal.1
    by_cases hcg : c < gs.length
    · have hci : (c : Int) < (gs.length : Int) := by omega
      obtain ⟨y, hy⟩ : ∃ y, gs[c]? = some y := ⟨_, List.getElem?_eq_getElem hcg⟩
      obtain ⟨-, g3, o3, hca3, hcell3⟩ := (HGR.out.all hB).at c (bvn y) (by simp [hy])
      subst hca3
      have hcell3' : wr.cell? ⟨g3, o3 + c, none⟩ = some (.int .u8 (y : Nat)) := hcell3
      have hy8 : (y : Int) < 256 := by have := HG8.out y (List.mem_of_getElem? hy); omega
      obtain ⟨z, hz⟩ : ∃ z, z = y % m.n := ⟨_, rfl⟩
      have q1 : (y : Int) % (m.n : Int) = (z : Int) := by rw [hz]; exact (Int.natCast_emod y m.n).symm
      have q2 : (y : Int).tmod (m.n : Int) = (z : Int) := by rw [Int.tmod_eq_emod_of_nonneg (by omega)]; exact q1
      have hzn : z < m2.n := by rw [hz, hn2]; exact Nat.mod_lt _ (by omega)
      have hn0 : ((m.n : Int) == 0) = false := by simp; omega
      have hn00 : ¬ (m.n : Int) = 0 := by omega
      clear hm2 hal hB hcell3 hy hz
      go_wp2_with fail
      refine (up_yes wr b m2 z false HM2.out hzn).mono ?_
      rintro e w9 ⟨rfl, hm9, hk9⟩
      have HM9 := hid hm9
      have HB9 := hid (show Below w.heap.size w w9 from HB.out.trans (hk9.below HB.out.size (fun i hi => by have := HBG.out; omega)))
      clear hm9 hk9
      go_wp2
      go_roundw
      case rel => exact ⟨c + 1, _, hcg, by go_num, HM9.out, ⟨HAL.out.1, HAL.out.2.1, HAL.out.2.2⟩, HB9.out⟩
      case measure => simp [intOf]; omega
    · have hci : ¬ (c : Int) < (gs.length : Int) := by omega
      clear hcg hm2 hal hB
      go_wp2_with fail
      obtain ⟨w3, hw3⟩ : ∃ w3, w3 = wr := ⟨_, rfl⟩
      subst hw3
      go_loopw [17, 54] (fun s i wr => ∃ c best : Nat, c ≤ m2.r ∧ best ≤ 16 ∧ i = .int .i64 c ∧ s = .int .i64 best ∧ (∀ i, i < c → (m2.free i).length ≤ best) ∧ (best = 0 ∨ ∃ i, i < c ∧ (m2.free i).length = best) ∧ Below w3.heap.size w3 wr) (fun _ i _ => m2.r - (intOf i).toNat)
      case atStart => exact ⟨0, 0, Nat.zero_le _, Nat.zero_le _, rfl, rfl, fun i hi => by omega, .inl rfl, Below.refl _ _⟩
      case round =>
        obtain ⟨c, best, hc, hb16, rfl, rfl, hall, hone, hB3⟩ := hrel
        have HALL := hid hall
        have HONE := hid hone
        have HB3 := hid hB3
        have HM3 := hid (HM2.out.below hB3 HM2.out.lt)
        have hs3 := hB3.size
        clear hall hone hB3
        by_cases hcr : c < m2.r
        · have hci : (c : Int) < (m.r : Int) := by omega
          go_wp2_with fail
          refine (free_any wr b c m2 HM3.out hcr).mono ?_
          rintro e w6 ⟨rfl, hb6⟩
          have HB6 := hid (show Below w3.heap.size w3 w6 from HB3.out.trans (hb6.mono hs3))
          have hfl : (m2.free c).length ≤ 16 := Nat.le_trans (Mx.at_len _ _) (by have := HM2.out.n16; omega)
          have HFL := hid (show ∃ fl, fl = (m2.free c).length from ⟨_, rfl⟩)
          obtain ⟨fl, hfe⟩ := HFL.out
          rw [← hfe] at hfl
          rw [← hfe]
          have HFE := hid hfe
          obtain ⟨mx, hmx⟩ : ∃ mx, mx = max best fl := ⟨_, rfl⟩
          have hmi : max (best : Int) (fl : Int) = (mx : Int) := by rw [hmx]; omega
          have HMX := hid hmx
          have hm16 : mx ≤ 16 := by omega
          have hcase : (best ≤ fl ∧ (best : Int) ≤ (fl : Int)) ∨ (fl < best ∧ (fl : Int) < (best : Int)) := by omega
          clear hb6 hfe hmx
          have done := hid (show (∀ i, i < c + 1 → (m2.free i).length ≤ mx) ∧ (mx = 0 ∨ ∃ i, i < c + 1 ∧ (m2.free i).length = mx) by
            refine ⟨fun i hi => ?_, ?_⟩
            · rcases Nat.lt_succ_iff_lt_or_eq.1 hi with h | rfl
              · have := HALL.out i h; have := HMX.out; omega
              · have := HFE.out; have := HMX.out; omega
            · by_cases hbf : best ≤ fl
              · exact .inr ⟨c, by omega, by have := HFE.out; have := HMX.out; omega⟩
              · have hmb : mx = best := by have := HMX.out; omega
                rw [hmb]
                rcases HONE.out with h | ⟨i, hi, h⟩
                · exact .inl h
                · exact .inr ⟨i, by omega, h⟩)
          have rl : ∀ v : Value, v = Value.int .i64 (mx : Int) → ∃ c' best' : Nat, c' ≤ m2.r ∧ best' ≤ 16 ∧ Value.int .i64 ((c : Int) + 1) = Value.int .i64 (c' : Int) ∧ v = Value.int .i64 (best' : Int) ∧ (∀ i, i < c' → (m2.free i).length ≤ best') ∧ (best' = 0 ∨ ∃ i, i < c' ∧ (m2.free i).length = best') ∧ Below w3.heap.size w3 w6 := fun v hv => ⟨c + 1, mx, hcr, hm16, by go_num, hv, done.out.1, done.out.2, HB6.out⟩
          have RL := hid rl
          clear rl
          go_wp2
          all_goals
            go_roundw
            case rel => first | exact RL.out _ rfl | exact RL.out _ (by congr 1; have := HMX.out; omega)
            case measure => simp [intOf]; omega
        · have hci : ¬ (c : Int) < (m.r : Int) := by omega
          have hcr2 : c = m2.r := by omega
          subst hcr2
          have HWN := hid (show m2.where 1000 = none from where_none_of fun i hi => by
            rw [HAL.out.own]
            apply Classical.byContradiction
            intro hne
            have := (HBU.out.wide 1000 i (by omega) (by omega) hne).1
            omega)
          have HB4 := hid (show Below w.heap.size w wr from HB.out.trans (HB3.out.mono HB.out.size))
          clear hcr
          go_wp2_with fail
          refine (jobs_any wr b m2 HM3.out).mono ?_
          rintro e wj ⟨vj, rfl, hvj, hbj⟩
          obtain ⟨aj, cj, rfl, -, -⟩ := owns_slice hvj
          have HMJ := hid (HM3.out.below hbj HM3.out.lt)
          have HBJ := hid (show Below w.heap.size w wj from HB4.out.trans (hbj.mono HB4.out.size))
          have hjl : m2.jobs.length ≤ 128 := by
            have h1 := m2.upTo_len m2.r
            have h2 : m2.r * m2.n ≤ 8 * 16 := Nat.mul_le_mul (by omega) (by omega)
            have h3 : m2.jobs.length = (m2.upTo m2.r).length := rising_len _
            omega
          obtain ⟨J, hJ⟩ : ∃ J, m2.jobs.length = J := ⟨_, rfl⟩
          have HJ := hid hJ
          rw [hJ] at hjl
          rw [hJ]
          clear hvj hbj hJ
          have hk1 : 1 ≤ k := by have := HK.out; omega
          have e5 : (q : Int) + 1 = (k : Int) := by have := HK.out; omega
          go_wp2_with fail
          by_cases hwide : m2.n < k
          · have HX := hid (show (m2.n : Int) < (k : Int) by omega)
            have hx1 : (m.n : Int) < (k : Int) := by omega
            have HK1 := hid (show (1 : Int) ≤ (k : Int) by omega)
            clear hwide hk1
            refine (place_wide wj b 1000 k m2 HMJ.out (by omega) HK1.out HWN.out HX.out).mono ?_
            rintro e wd ⟨rfl, hd⟩
            have HD := hid (show Below w.heap.size w wd from HBJ.out.trans (hd.mono HBJ.out.size))
            have HMD := hid (HMJ.out.below hd HMJ.out.lt)
            clear hd
            go_wp2_with fail
            refine (jobs_any wd b m2 HMD.out).mono ?_
            rintro e wj ⟨vj, rfl, hvj, hbj⟩
            obtain ⟨aj, cj, rfl, -, -⟩ := owns_slice hvj
            have HDJ := hid (show Below w.heap.size w wj from HD.out.trans (hbj.mono HD.out.size))
            clear hvj hbj
            rw [HJ.out]
            go_wp2_with fail
            go_ret
            exact ⟨by simp, HDJ.out⟩

          have hx1 : ¬ (m.n : Int) < (k : Int) := by omega
          cases hroom : m2.room k 0 m2.r with
          | none =>
            have HX := hid (show k ≤ m2.n by omega)
            have HK1 := hid hk1
            have HRO := hid hroom
            have hbk : (best : Int) < (k : Int) := by
              rcases HONE.out with h | ⟨i, hi, h⟩
              · omega
              · have := Mx.room_none _ _ hroom i (Nat.zero_le _) (by omega); omega
            clear hwide hroom hk1
            refine (place_full wj b 1000 k m2 HMJ.out (by omega) HK1.out HWN.out HX.out HRO.out).mono ?_
            rintro e wd ⟨rfl, hd⟩
            have HD := hid (show Below w.heap.size w wd from HBJ.out.trans (hd.mono HBJ.out.size))
            have HMD := hid (HMJ.out.below hd HMJ.out.lt)
            clear hd
            go_wp2_with fail
            refine (jobs_any wd b m2 HMD.out).mono ?_
            rintro e wj ⟨vj, rfl, hvj, hbj⟩
            obtain ⟨aj, cj, rfl, -, -⟩ := owns_slice hvj
            have HDJ := hid (show Below w.heap.size w wj from HD.out.trans (hbj.mono HD.out.size))
            clear hvj hbj
            rw [HJ.out]
            go_wp2_with fail
            go_ret
            exact ⟨by simp, HDJ.out⟩

          | some row =>
            have HX := hid (show k ≤ m2.n by omega)
            have HK1 := hid hk1
            have HRO := hid hroom
            obtain ⟨-, hrr, hrk, hbef⟩ := Mx.room_some _ _ _ hroom
            have hrow : row < m2.r := by omega
            have hbk : ¬ (best : Int) < (k : Int) := by have := HALL.out row hrow; omega
            have d1 : decide (m.n < k) = false := decide_eq_false (by omega)
            have d2 : decide (best < k) = false := decide_eq_false (by omega)
            clear hwide hroom hk1 hrr hbef
            refine (place_yes wj b 1000 k row m2 HMJ.out (by omega) (by omega) HK1.out HWN.out HX.out HRO.out).mono ?_
            rintro e wd ⟨v, rfl, hv, hmd, hkd⟩
            have hlen : ((m2.free row).take k).length = k := by rw [List.length_take]; omega
            obtain ⟨ad, cp, rfl, hcl, hcm⟩ := owns_slice hv
            have HV := hid (RdV.of_own hv)
            have HD := hid (show Below w.heap.size w wd from HBJ.out.trans (hkd.below HBJ.out.size (fun i hi => by have := HBG.out; omega)))
            have HMD := hid hmd
            have HLEN := hid hlen
            have HFR := hid (show ∀ n ∈ (m2.free row).take k, n < m2.n ∧ m2.d n = false from fun n hn => ⟨(free_mem.1 (List.mem_of_mem_take hn)).1, (free_mem.1 (List.mem_of_mem_take hn)).2.2⟩)
            obtain ⟨m3, hm3⟩ : ∃ m3, m3 = m2.stand row ((m2.free row).take k) 1000 := ⟨_, rfl⟩
            have HM3E := hid hm3
            rw [← hm3] at HMD
            have h3n : m3.n = m2.n := by rw [hm3, Mx.stand_n]
            have h3r : m3.r = m2.r := by rw [hm3, Mx.stand_r]
            have H3D := hid (show m3.d = m2.d by rw [hm3, Mx.stand_d])
            have hrow8 : (row : Int) < 8 := by omega
            have kb : (k : Int) ≤ 16 := by have := HX.out; omega
            clear hv hmd hkd hlen hcl hcm hm3
            go_wp2_with fail
            go_loopw [105] (fun i wr => ∃ c : Nat, c ≤ k ∧ i = .int .i64 c ∧ wr = wd) (fun i _ => k - (intOf i).toNat)
            case atStart => exact ⟨0, Nat.zero_le _, rfl, rfl⟩
            case round =>
              obtain ⟨x, hx, rfl, hwr⟩ := hrel
              have HWR3 := hid hwr
              subst hwr
              by_cases hxk : x < k
              · have hxi : (x : Int) < (k : Int) := by omega
                obtain ⟨nd2, hnd⟩ : ∃ nd2, ((m2.free row).take k)[x]? = some nd2 := ⟨_, List.getElem?_eq_getElem (by rw [HLEN.out]; exact hxk)⟩
                obtain ⟨-, g, o, hga, hcell⟩ := HV.out.at x (iv nd2) (by rw [List.getElem?_map, hnd]; rfl)
                subst hga
                have hcell' : wr.cell? ⟨g, o + x, none⟩ = some (.int .i64 (nd2 : Nat)) := hcell
                obtain ⟨hn1, hd1⟩ := HFR.out nd2 (List.mem_of_getElem? hnd)
                have HD1 := hid (show m3.d nd2 = false by rw [H3D.out]; exact hd1)
                clear hcell hnd hd1
                go_wp2_with fail
                refine (isup_yes wr b m3 nd2 HMD.out (by omega)).mono ?_
                rintro e w8 ⟨rfl, rfl⟩
                rw [HD1.out]
                go_wp2
                go_roundw
                case rel => exact ⟨x + 1, hxk, by go_num, trivial⟩
                case measure => simp [intOf]; omega
              · have hxi : ¬ (x : Int) < (k : Int) := by omega
                obtain ⟨nd2, hnd⟩ : ∃ nd2, ((m2.free row).take k)[0]? = some nd2 := ⟨_, List.getElem?_eq_getElem (by rw [HLEN.out]; exact HK1.out)⟩
                obtain ⟨-, g, o, hga, hcell⟩ := HV.out.at 0 (iv nd2) (by rw [List.getElem?_map, hnd]; rfl)
                subst hga
                have hcell' : wr.cell? ⟨g, o, none⟩ = some (.int .i64 (nd2 : Nat)) := hcell
                obtain ⟨hn1, hd1⟩ := HFR.out nd2 (List.mem_of_getElem? hnd)
                have HC := hid (show m3.c (16 * row + nd2) = 1000 by
                  rw [HM3E.out, Mx.stand_cell _ _ _ _ _ _ (fun n hn => by have := (HFR.out n hn).1; omega) (by omega), if_pos (show row = row ∧ nd2 ∈ (m2.free row).take k from ⟨rfl, List.mem_of_getElem? hnd⟩)])
                have k0' : (0 : Int) < (k : Int) := by have := HK1.out; omega
                clear hcell hnd hd1 hxk
                go_wp2_with fail
                refine (at_yes wr b m3 row nd2 HMD.out (by omega) (by omega)).mono ?_
                rintro e w8 ⟨rfl, rfl⟩
                rw [HC.out]
                go_wp2_with fail
                go_ret
                exact ⟨by simp, HD.out⟩

/-! ### THE ROW's STEP -/
set_option maxRecDepth 100000 in
theorem lifted (os : Os) (started : os.Started) (H : Type) (enc : TypeId × Value → H) :
    ReturnsInHanded {} Try.checked os 6 .any (Rows.rowsFullSpec.pre6 enc Try.prog Try.f6 Rows.rowsFullRow.domain false) (Rows.rowsFullSpec.post enc Try.prog Try.f6 false true false false) := by
  refine returnsInHanded_of_change (C := Try.checked) own started (by kernel_rfl) Try.func6
    (ChangeSpec.witness6 (enc := enc) (C := Try.checked) false ⟨#[], #[.int .u8 0, .int .u8 0, .slice none 0 0, .slice none 0 0, .int .u8 0], []⟩ 8 (by kernel_rfl) (by kernel_rfl) (by kernel_rfl) (by kernel_rfl)) ?_
  intro W base args ds gs before hval0 hW hcnd _
  have hval : ∀ (j : Nat) t v, Try.f6.params[j]? = some t → args[j]? = some v → Value.okWide Try.prog W .any base t v := hval0
  have hW' := hW
  obtain ⟨p, q, hA0, hV, rfl, hfz, hnd⟩ := hW
  have hA : DataW.TrodAll enc Try.prog W 0 (fun _ => true) true Try.f6.params.toList args.toList ds p := hA0
  rw [Try.params6] at hA hval
  obtain ⟨v0, vs0, d0, ds0, p0, q0, hargs, rfl, rfl, h0, r0⟩ := trodAll_cons hA
  obtain ⟨v1, vs1, d1, ds1, p1, q1, rfl, rfl, rfl, h1, r1⟩ := trodAll_cons r0
  obtain ⟨v2, vs2, d2, ds2, p2, q2, rfl, rfl, rfl, h2, r2⟩ := trodAll_cons r1
  obtain ⟨v3, vs3, d3, ds3, p3, q3, rfl, rfl, rfl, h3, r3⟩ := trodAll_cons r2
  obtain ⟨v4, vs4, d4, ds4, p4, q4, rfl, rfl, rfl, h4, r4⟩ := trodAll_cons r3
  obtain ⟨rfl, rfl, rfl⟩ := trodAll_nil r4
  obtain rfl : args = #[v0, v1, v2, v3, v4] := by cases args; simp_all
  obtain ⟨rfl, rfl⟩ := trodVars_none hV
  have k0 := h0
  have lt0 : ∀ x ∈ p0, x.block < W.heap.size := by obtain ⟨m, hm⟩ := k0; exact DataW.trod_lt m _ _ _ hm
  have k1 := h1
  have lt1 : ∀ x ∈ p1, x.block < W.heap.size := by obtain ⟨m, hm⟩ := k1; exact DataW.trod_lt m _ _ _ hm
  have k2 := h2
  have lt2 : ∀ x ∈ p2, x.block < W.heap.size := by obtain ⟨m, hm⟩ := k2; exact DataW.trod_lt m _ _ _ hm
  have k3 := h3
  have lt3 : ∀ x ∈ p3, x.block < W.heap.size := by obtain ⟨m, hm⟩ := k3; exact DataW.trod_lt m _ _ _ hm
  have k4 := h4
  have lt4 : ∀ x ∈ p4, x.block < W.heap.size := by obtain ⟨m, hm⟩ := k4; exact DataW.trod_lt m _ _ _ hm
  obtain ⟨a0, rfl, rfl, rfl, w0⟩ := open_int Try.underlying5 (hval 0 5 v0 rfl rfl) h0
  obtain ⟨a1, rfl, rfl, rfl, w1⟩ := open_int Try.underlying5 (hval 1 5 v1 rfl rfl) h1
  obtain ⟨a2, len2, cap2, rfl⟩ := okWide_slice Try.underlying54 (hval 2 54 v2 rfl rfl)
  obtain ⟨z2, w2⟩ : ∃ zs, IsRow .u8 W a2 len2 cap2 zs := by
    obtain ⟨fuel, hf⟩ := h2
    rcases open_ints Try.underlying54 Try.underlying5 (by kernel_rfl) hf with ⟨hcs, _⟩ | ⟨x, l, c, zs, hcs, _, hl, hm, hz, _, hcell, hwz⟩
    · simp [Value.cells] at hcs
      obtain ⟨rfl, rfl, rfl⟩ := hcs
      exact ⟨[], .inl ⟨rfl, rfl, rfl, rfl⟩⟩
    · simp [Value.cells] at hcs
      obtain ⟨rfl, rfl, rfl⟩ := hcs
      exact ⟨zs, .inr ⟨_, rfl, hl, hm, by simpa using hz, hcell, hwz⟩⟩
  obtain ⟨a3, len3, cap3, rfl⟩ := okWide_slice Try.underlying54 (hval 3 54 v3 rfl rfl)
  obtain ⟨z3, w3⟩ : ∃ zs, IsRow .u8 W a3 len3 cap3 zs := by
    obtain ⟨fuel, hf⟩ := h3
    rcases open_ints Try.underlying54 Try.underlying5 (by kernel_rfl) hf with ⟨hcs, _⟩ | ⟨x, l, c, zs, hcs, _, hl, hm, hz, _, hcell, hwz⟩
    · simp [Value.cells] at hcs
      obtain ⟨rfl, rfl, rfl⟩ := hcs
      exact ⟨[], .inl ⟨rfl, rfl, rfl, rfl⟩⟩
    · simp [Value.cells] at hcs
      obtain ⟨rfl, rfl, rfl⟩ := hcs
      exact ⟨zs, .inr ⟨_, rfl, hl, hm, by simpa using hz, hcell, hwz⟩⟩
  obtain ⟨a4, rfl, rfl, rfl, w4⟩ := open_int Try.underlying5 (hval 4 5 v4 rfl rfl) h4
  clear hA0 hval0
  refine (walk a0 a1 a2 len2 cap2 z2 a3 len3 cap3 z3 a4 W w0 w1 w2 w3 w4).mono fun e W' ⟨he, bel⟩ => ?_
  subst he
  exact ⟨_, rfl, _, _, _, [], _, [], hW', trodAll_mk1 (shut_bool Try.underlying4 _), (trodAll_cons_mk (Below.trod laidOut (by kernel_rfl) (of_decide_eq_true (by kernel_rfl)) k0 bel lt0) (trodAll_cons_mk (Below.trod laidOut (by kernel_rfl) (of_decide_eq_true (by kernel_rfl)) k1 bel lt1) (trodAll_cons_mk (Below.trod laidOut (by kernel_rfl) (of_decide_eq_true (by kernel_rfl)) k2 bel lt2) (trodAll_cons_mk (Below.trod laidOut (by kernel_rfl) (of_decide_eq_true (by kernel_rfl)) k3 bel lt3) (trodAll_cons_mk (Below.trod laidOut (by kernel_rfl) (of_decide_eq_true (by kernel_rfl)) k4 bel lt4) trodAll_mk0))))), rfl, bel.frame _, fun h => by cases h⟩

theorem over : Rows.rowsFullRow.holds Try.pinned (OpenSpec.ofChange Rows.rowsFullSpec) :=
  OpenClaim.holds_of_wide 6 Try.f6 rfl rfl rfl rfl rfl rfl rfl ⟨rfl, rfl, rfl, rfl, rfl⟩ rfl rfl rfl rfl rfl (by kernel_rfl) Try.func6 (by kernel_rfl)
    (of_decide_eq_true (by kernel_rfl)) (by unfold Func.isWrapper; first | (rw [if_pos (by decide +kernel)]; kernel_rfl) | (rw [if_neg (by decide +kernel)]; exact ⟨rfl, rfl⟩))
    (fun os started H enc _ => lifted os started H enc)

/-- THE STATEMENT -/
theorem rowsFull_holds : Rows.RowsFullSaid := over
#print axioms rowsFull_holds
end Go.Proofs.Ytlobnipeplnodaa.rowsFull
