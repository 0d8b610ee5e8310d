/-
  slices.Sort at []uint32: partialInsertionSortOrdered.
-/
import Derived.Test.YtdongghjchnpbaaSrtE
import Derived.Deep.Cut
import Derived.Deep.CutRange
import Derived.Deep.CutBlock
namespace Go.Proofs.Ytdongghjchnpbaa
open Go.RowKit
set_option linter.unusedVariables false

theorem scanSorted_go {d : Array Nat} {b i : Nat} (h : i < b) (hl : ltN d[i]! d[i - 1]! = false) : Sort.scanSorted ltN d b i = Sort.scanSorted ltN d b (i + 1) := by
  conv => lhs; rw [Sort.scanSorted]
  rw [if_pos (by simp [h, hl])]
theorem scanSorted_stop {d : Array Nat} {b i : Nat} (h : ¬ (i < b ∧ (!ltN d[i]! d[i - 1]!) = true)) : Sort.scanSorted ltN d b i = i := by
  rw [Sort.scanSorted, if_neg (by rw [Bool.and_eq_true, decide_eq_true_eq]; exact h)]
theorem shiftUp_size (b : Nat) : ∀ (n j : Nat) (d : Array Nat), b - j ≤ n → (Sort.shiftUp ltN b j d).size = d.size := by
  intro n
  induction n with
  | zero => intro j d h; rw [Sort.shiftUp, if_neg (by omega)]
  | succ n ih =>
    intro j d h
    rw [Sort.shiftUp]
    split
    · split
      · rfl
      · rw [ih _ _ (by omega), swp_size]
    · rfl
theorem pi_done {a b s i i2 : Nat} {d : Array Nat} (h : i2 = Sort.scanSorted ltN d b i) (hb : i2 = b) : Sort.partialIns ltN a b (s + 1) i d = (d, true) := by
  rw [Sort.partialIns]; show (if Sort.scanSorted ltN d b i = b then _ else _) = _; rw [← h, if_pos hb]
theorem pi_short {a b s i i2 : Nat} {d : Array Nat} (h : i2 = Sort.scanSorted ltN d b i) (hb : i2 ≠ b) (h50 : b - a < 50) : Sort.partialIns ltN a b (s + 1) i d = (d, false) := by
  rw [Sort.partialIns]; show (if Sort.scanSorted ltN d b i = b then _ else _) = _; rw [← h, if_neg hb, if_pos h50]
theorem pi_go {a b s i i2 : Nat} {d D2 : Array Nat} (h : i2 = Sort.scanSorted ltN d b i) (hb : i2 ≠ b) (h50 : ¬ b - a < 50) (hD : D2 = Sort.swp d i2 (i2 - 1)) :
    Sort.partialIns ltN a b (s + 1) i d = Sort.partialIns ltN a b s i2 (if 2 ≤ b - i2 then Sort.shiftUp ltN b (i2 + 1) (if 2 ≤ i2 - a then Sort.shiftDown ltN (i2 - 1) D2 else D2) else (if 2 ≤ i2 - a then Sort.shiftDown ltN (i2 - 1) D2 else D2)) := by
  subst h hD
  rw [Sort.partialIns]
  show (if Sort.scanSorted ltN d b i = b then _ else _) = _
  rw [if_neg hb, if_neg h50]

set_option maxRecDepth 100000 in
set_option maxHeartbeats 16000000 in
theorem partial_any (w : World) (g off n cap : Nat) (pre tl : List Value) (d : Array Nat) (a b : Nat) (h : ArrAt w g off pre tl d) (hn : d.size ≤ n) (hab : a + 12 < b) (hb : b ≤ d.size) (hm : n ≤ 1000000000000) :
    Calls Try.prog 90 #[.slice (some ⟨g, off, none⟩) n cap, .int .i64 a, .int .i64 b] w fun e w' => e = .returned (.bool (Sort.partialInsertionSort ltN d a b).2) ∧ Made w g off pre tl (Sort.partialInsertionSort ltN d a b).1 w' := by
  have HM0 := hid (Made.refl h)
  obtain ⟨a1, ha1⟩ : ∃ a1, a1 = a + 1 := ⟨_, rfl⟩
  obtain ⟨R, hR⟩ : ∃ R, R = Sort.partialIns ltN a b 5 a1 d := ⟨_, rfl⟩
  have hRR : Sort.partialInsertionSort ltN d a b = R := by rw [hR, ha1]; rfl
  rw [hRR]
  have HR := hid hR
  obtain ⟨ln, hln⟩ : ∃ ln, ln = b - a := ⟨_, rfl⟩
  have e1 : (a : Int) + 1 = (a1 : Int) := by omega
  have e2 : (b : Int) - (a : Int) = (ln : Int) := by omega
  have HSN := hid (show d.size ≤ n ∧ n ≤ 1000000000000 from ⟨hn, hm⟩)
  have HBD := hid (show a + 12 < b ∧ b ≤ d.size ∧ a1 = a + 1 ∧ ln = b - a from ⟨hab, hb, ha1, hln⟩)
  have q1 : (n : Int) ≤ 1000000000000 := by omega
  have q2 : (b : Int) ≤ (n : Int) := by omega
  have q3 : (a : Int) ≤ (n : Int) := by omega
  have q4 : (ln : Int) ≤ (n : Int) := by omega
  clear h hn hab hb ha1 hR hRR hm hln
  go_enter Try.func90, Try.ntmps90
  go_wp2_with fail
  go_loopw [7, 8] (fun iv kv wr => ∃ (k i : Nat) (d1 : Array Nat), k ≤ 5 ∧ a < i ∧ i ≤ b ∧ kv = .int .i64 k ∧ iv = .int .i64 i ∧ d1.size = d.size ∧ Sort.partialIns ltN a b (5 - k) i d1 = R ∧ Made w g off pre tl d1 wr) (fun _ kv _ => 5 - (intOf kv).toNat)
  case atStart => exact ⟨0, a1, d, by omega, by have := HBD.out; omega, by have := HBD.out; omega, rfl, rfl, rfl, HR.out.symm, HM0.out⟩
  case round =>
    obtain ⟨k, i0, d1, hk5, hi1, hi2, rfl, rfl, hsz, hF, hM⟩ := hrel
    have HSZ := hid hsz
    have HF := hid hF
    have HM := hid hM
    have HI0 := hid (show a < i0 ∧ i0 ≤ b from ⟨hi1, hi2⟩)
    clear hsz hF hM hi1 hi2
    by_cases hk : k < 5
    · have hki : (k : Int) < 5 := by omega
      obtain ⟨s0, hs0⟩ : ∃ s0, 5 - k = s0 + 1 := ⟨4 - k, by omega⟩
      have HK := hid (show 5 - k = s0 + 1 ∧ k < 5 from ⟨hs0, hk⟩)
      rw [hs0] at HF
      clear hs0 hk hk5
      go_wp2_with fail
      obtain ⟨wq, hwq⟩ : ∃ wq, wq = wr := ⟨_, rfl⟩
      subst hwq
      obtain ⟨R2, hR2⟩ : ∃ R2, R2 = Sort.scanSorted ltN d1 b i0 := ⟨_, rfl⟩
      have HR2 := hid hR2
      clear hR2
      go_loopw [7] (fun iv wr => ∃ i : Nat, a < i ∧ i ≤ b ∧ iv = .int .i64 i ∧ Sort.scanSorted ltN d1 b i = R2 ∧ Made w g off pre tl d1 wr) (fun iv _ => b - (intOf iv).toNat)
      case atStart => exact ⟨i0, HI0.out.1, HI0.out.2, rfl, HR2.out.symm, HM.out⟩
      case round =>
        obtain ⟨i, hv1, hv2, rfl, hS, hM⟩ := hrel
        have HIB := hid (show a < i ∧ i ≤ b from ⟨hv1, hv2⟩)
        have HS := hid hS
        have HMS := hid hM
        obtain ⟨p0, hp0⟩ : ∃ p0, i = p0 + 1 := ⟨i - 1, by omega⟩
        have HP0 := hid hp0
        have ep0 : (i : Int) - 1 = (p0 : Int) := by omega
        have bi' : (i : Int) ≤ (n : Int) := by omega
        clear hv1 hv2 hS hM hp0
        obtain ⟨B, hB⟩ : ∃ B, B = (decide (i < b) && !ltN d1[i]! d1[p0]!) := ⟨_, rfl⟩
        have HBB := hid hB
        clear hB
        go_upto_region 5 with (fail)
        go_cut [32] from 17 to 34 (fun bv wx => bv = .bool B ∧ Made w g off pre tl d1 wx)
        case first =>
          by_cases hle : i < b
          · have y1 := HMS.out.arr.cell i (by have := HBD.out; have := HSZ.out; omega)
            have y2 := HMS.out.arr.cell p0 (by have := HBD.out; have := HSZ.out; have := HP0.out; omega)
            have hlei : (i : Int) < (b : Int) := by omega
            have dle : decide (i < b) = true := by simpa using hle
            have z1 : (i : Int) < (n : Int) := by omega
            have z2 : (p0 : Int) < (n : Int) := by omega
            have z3 : i < n := by omega
            have z4 : p0 < n := by omega
            have HE := hid (show B = !ltN d1[i]! d1[p0]! by rw [HBB.out, dle, Bool.true_and])
            clear HBB hle
            generalize d1[i]! = x at *
            generalize d1[p0]! = y at *
            go_quiet ((go_at_call 91; exact Calls.quiet_of_same (less_any _ x y)))
            go_wp2_with fail
            go_meet
            case rel => exact ⟨by rw [HE.out], HMS.out.drew nq⟩
          · have hlei : ¬ (i : Int) < (b : Int) := by omega
            have dle : decide (i < b) = false := by simpa using hle
            have HE := hid (show B = false by rw [HBB.out, dle, Bool.false_and])
            clear HBB hle
            go_quiet (fail)
            go_wp2_with fail
            go_meet
            case rel => exact ⟨by rw [HE.out], HMS.out.drew nq⟩
        case rest =>
          obtain ⟨rfl, hMC⟩ := hcut
          have HMC := hid hMC
          clear hMC
          cases B with
          | true =>
            have HQ := hid (show i < b ∧ (!ltN d1[i]! d1[p0]!) = true by
              have h := HBB.out.symm
              rw [Bool.and_eq_true, decide_eq_true_eq] at h
              exact h)
            have HS2 := hid (show Sort.scanSorted ltN d1 b (i + 1) = R2 by
              rw [← HS.out]
              exact (scanSorted_go HQ.out.1 (by rw [show i - 1 = p0 by have := HP0.out; omega]; simpa using HQ.out.2)).symm)
            clear HBB
            go_wp2_with fail
            go_roundw
            case rel => exact ⟨i + 1, by have := HIB.out; omega, by have := HQ.out.1; omega, by go_num, HS2.out, HMC.out⟩
            case measure => have := HQ.out.1; simp [intOf]; omega
          | false =>
            have HQ := hid (show ¬ (i < b ∧ (!ltN d1[i]! d1[i - 1]!) = true) by
              have h := HBB.out.symm
              intro hh
              rw [show i - 1 = p0 by have := HP0.out; omega] at hh
              rw [(Bool.and_eq_true _ _).mpr ⟨decide_eq_true hh.1, hh.2⟩] at h
              exact absurd h (by simp))
            have hfi : i = R2 := by rw [← HS.out, scanSorted_stop HQ.out]
            have HFI := hid (show i = Sort.scanSorted ltN d1 b i0 by rw [hfi]; exact HR2.out)
            clear HBB HQ hfi HS
            by_cases hib : i = b
            · have HRE := hid (show R = (d1, true) by rw [← HF.out]; exact pi_done HFI.out hib)
              have eb : ((i : Int) == (b : Int)) = true := by simp; omega
              have eib : (i : Int) = (b : Int) := by omega
              have HIBE := hid eib
              clear hib eib
              go_wp2
              go_ret
              rw [HRE.out]
              exact ⟨rfl, HMC.out⟩
            · have eb : ((i : Int) == (b : Int)) = false := by rw [beq_eq_false_iff_ne]; omega
              by_cases h50 : b - a < 50
              · have HRE := hid (show R = (d1, false) by rw [← HF.out]; exact pi_short HFI.out hib h50)
                have e50 : (ln : Int) < 50 := by have := HBD.out; omega
                clear hib h50
                go_wp2
                go_ret
                rw [HRE.out]
                exact ⟨rfl, HMC.out⟩
              · have e50 : ¬ (ln : Int) < 50 := by have := HBD.out; omega
                obtain ⟨D2, hD2⟩ : ∃ D2, D2 = Sort.swp d1 i p0 := ⟨_, rfl⟩
                obtain ⟨ia, hia'⟩ : ∃ ia, ia = i - a := ⟨_, rfl⟩
                obtain ⟨bi, hbi'⟩ : ∃ bi, bi = b - i := ⟨_, rfl⟩
                obtain ⟨i1, hi1'⟩ : ∃ i1, i1 = i + 1 := ⟨_, rfl⟩
                have HIA := hid hia'
                have HBI := hid hbi'
                have HI1 := hid hi1'
                have HPX := hid (show Sort.partialIns ltN a b s0 i (if 2 ≤ b - i then Sort.shiftUp ltN b (i + 1) (if 2 ≤ i - a then Sort.shiftDown ltN p0 D2 else D2) else (if 2 ≤ i - a then Sort.shiftDown ltN p0 D2 else D2)) = R by
                  rw [← HF.out, pi_go HFI.out hib h50 (D2 := D2) (by rw [hD2, show i - 1 = p0 by have := HP0.out; omega]), show i - 1 = p0 by have := HP0.out; omega])
                have HSD2 := hid (show D2.size = d.size by rw [hD2, swp_size, HSZ.out])
                have e5 : (i : Int) - (a : Int) = (ia : Int) := by have := HIB.out; omega
                have e6 : (b : Int) - (i : Int) = (bi : Int) := by have := HIB.out; omega
                have e7 : (i : Int) + 1 = (i1 : Int) := by omega
                have r1 : (ia : Int) ≤ (n : Int) := by omega
                have r2 : (bi : Int) ≤ (n : Int) := by omega
                have HIB2 := hid (show i < b by have := HIB.out; omega)
                have SPQ := hid (show i < d1.size ∧ p0 < d1.size by have := HSZ.out; have := HBD.out; have := HP0.out; have := HIB2.out; omega)
                have HPQ := hid (show i = p0 + 1 from HP0.out)
                have HX := hid (show d1[i]! = d1[i]! from rfl)
                have HD2 := hid hD2
                clear hib h50 hia' hbi' hi1' hD2 HX
                have si : i < d1.size := SPQ.out.1
                have sj : p0 < d1.size := SPQ.out.2
                have SIJ := hid (show i < d1.size ∧ p0 < d1.size from ⟨si, sj⟩)
                have c1 := HMC.out.arr.cell i si
                have c2 := HMC.out.arr.cell p0 sj
                have f1 := HMC.out.arr.frozen (off + i)
                have f2 := HMC.out.arr.frozen (off + p0)
                obtain ⟨v', hy'⟩ := cell?_setCell_some (w := wc) (p := ⟨g, off + i, none⟩) (x := .int .u32 ((d1[p0]! : Nat) : Int)) (q := ⟨g, off + p0, none⟩) c2
                have z1 : (i : Int) < (n : Int) := by have := HSN.out; have := HSZ.out; omega
                have z2 : (p0 : Int) < (n : Int) := by have := HSN.out; have := HSZ.out; omega
                have z3 : i < n := by omega
                have z4 : p0 < n := by omega
                clear si sj
                generalize hx : d1[i]! = x at *
                generalize hy : d1[p0]! = y at *
                have HX := hid hx
                have HY := hid hy
                clear hx hy
                go_wp2_with fail
                go_region
                have HMX := hid ((HMC.out.swap i p0 SIJ.out.1 SIJ.out.2).drew1)
                rw [HX.out, HY.out] at HMX
                clear hy' c1 c2 f1 f2 z1 z2 z3 z4 HX HY
                rw [← HD2.out] at HMX
                clear SPQ HPQ
                generalize ((wc.setCell _ _).setCell _ _).drew = wy at *
                by_cases hia : 2 ≤ i - a
                · have hiai : (2 : Int) ≤ (ia : Int) := by have := HIA.out; omega
                  obtain ⟨U, hU⟩ : ∃ U, U = Sort.shiftDown ltN p0 D2 := ⟨_, rfl⟩
                  have HU := hid hU
                  have HPU := hid (show Sort.partialIns ltN a b s0 i (if 2 ≤ b - i then Sort.shiftUp ltN b (i + 1) U else U) = R by rw [← HPX.out, if_pos hia, hU])
                  clear hU hia
                  go_wp2_with fail
                  go_loopw [9] (fun jv wr => ∃ (j : Nat) (d3 : Array Nat), j ≤ p0 ∧ jv = .int .i64 j ∧ d3.size = d.size ∧ Sort.shiftDown ltN j d3 = U ∧ Made w g off pre tl d3 wr) (fun jv _ => (intOf jv).toNat)
                  case atStart => exact ⟨p0, D2, Nat.le_refl _, rfl, HSD2.out, HU.out.symm, HMX.out⟩
                  case round =>
                    obtain ⟨j, d3, hj1, rfl, hsz3, hS3, hM3⟩ := hrel
                    have HSZD := hid hsz3
                    have HS3 := hid hS3
                    have HM3 := hid hM3
                    have HJ := hid hj1
                    clear hsz3 hS3 hM3 hj1
                    cases j with
                    | zero =>
                      have HUE := hid (show d3 = U from HS3.out)
                      have HPE0 := hid (show Sort.partialIns ltN a b s0 i (if 2 ≤ b - i then Sort.shiftUp ltN b (i + 1) d3 else d3) = R by rw [HUE.out]; exact HPU.out)
                      have HZZ := hid (show d3.size = d.size from HSZD.out)
                      obtain ⟨wz, hwz⟩ : ∃ wz, wz = wr := ⟨_, rfl⟩
                      subst hwz
                      by_cases hbi : 2 ≤ b - i
                      · have hbii : (2 : Int) ≤ (bi : Int) := by have := HBI.out; omega
                        obtain ⟨T, hT⟩ : ∃ T, T = Sort.shiftUp ltN b i1 d3 := ⟨_, rfl⟩
                        have HT := hid hT
                        have HPT := hid (show Sort.partialIns ltN a b s0 i T = R by rw [← HPE0.out, if_pos hbi, hT, HI1.out])
                        have HSTT := hid (show T.size = d.size by rw [hT, shiftUp_size _ _ _ _ (Nat.le_refl _), HZZ.out])
                        clear hT hbi
                        go_wp2_with fail
                        go_loopw [10] (fun jv wr => ∃ (j : Nat) (d4 : Array Nat), i + 1 ≤ j ∧ j ≤ b ∧ jv = .int .i64 j ∧ d4.size = d.size ∧ Sort.shiftUp ltN b j d4 = T ∧ Made w g off pre tl d4 wr) (fun jv _ => b - (intOf jv).toNat)
                        case atStart => exact ⟨i1, d3, by have := HI1.out; omega, by have := HI1.out; have := HIB.out; omega, rfl, HZZ.out, HT.out.symm, HM3.out⟩
                        case round =>
                          obtain ⟨j, d4, hj1, hj2, rfl, hsz4, hS4, hM4⟩ := hrel
                          have HSZD := hid hsz4
                          have HS4 := hid hS4
                          have HM4 := hid hM4
                          have HJ := hid (show i + 1 ≤ j ∧ j ≤ b from ⟨hj1, hj2⟩)
                          clear hsz4 hS4 hM4 hj1 hj2
                          by_cases hjb : j < b
                          · have hji : (j : Int) < (b : Int) := by omega
                            obtain ⟨p, hp⟩ : ∃ p, j = p + 1 := ⟨j - 1, by have := HJ.out; omega⟩
                            have ep : (j : Int) - 1 = (p : Int) := by omega
                            have HPQ := hid hp
                            have SPQ := hid (show j < d4.size ∧ p < d4.size by have := HSZD.out; have := HBD.out; omega)
                            have bj : (j : Int) ≤ 1000000000000 := by have := HBD.out; have := HSN.out; omega
                            have HJB := hid hjb
                            clear hp hjb
                            have y1 := HM4.out.arr.cell j SPQ.out.1
                            have y2 := HM4.out.arr.cell p SPQ.out.2
                            have z1 : (j : Int) < (n : Int) := by have := SPQ.out; have := HSN.out; have := HSZD.out; omega
                            have z2 : (p : Int) < (n : Int) := by have := SPQ.out; have := HSN.out; have := HSZD.out; omega
                            have z3 : j < n := by omega
                            have z4 : p < n := by omega
                            obtain ⟨x, hx⟩ : ∃ x, x = d4[j]! := ⟨_, rfl⟩
                            obtain ⟨y, hy⟩ : ∃ y, y = d4[p]! := ⟨_, rfl⟩
                            rw [← hx] at y1
                            rw [← hy] at y2
                            have HX := hid hx
                            have HY := hid hy
                            clear hx hy
                            go_wp2_with fail
                            go_quiet ((go_at_call 91; exact Calls.quiet_of_same (less_any _ x y)))
                            have HM5 := hid (HM4.out.drew nq)
                            clear y1 y2
                            generalize wr.drewN nq = ws at *
                            cases hl : ltN x y with
                            | false =>
                              have HTE := hid (show d4 = T by rw [← HS4.out, Sort.shiftUp, if_pos HJB.out, if_pos (by rw [← HX.out, show j - 1 = p by have := HPQ.out; omega, ← HY.out, hl]; rfl)])
                              clear hl
                              have HPE := hid (show Sort.partialIns ltN a b s0 i d4 = R by rw [HTE.out]; exact HPT.out)
                              go_wp2
                              go_roundw
                              case rel => exact ⟨k + 1, i, d4, by omega, by have := HIB.out; omega, by have := HIB.out; omega, by go_num, rfl, HSZD.out, by rw [show 5 - (k + 1) = s0 by have := HK.out; omega]; exact HPE.out, HM5.out⟩
                              case measure => have := HK.out; simp [intOf]; omega
                            | true =>
                              have HTE := hid (show Sort.shiftUp ltN b (j + 1) (Sort.swp d4 j p) = T by
                                rw [← HS4.out]
                                conv => rhs; rw [Sort.shiftUp]
                                rw [if_pos HJB.out, if_neg (by rw [← HX.out, show j - 1 = p by have := HPQ.out; omega, ← HY.out, hl]; simp), show j - 1 = p by have := HPQ.out; omega])
                              have HSS := hid (show (Sort.swp d4 j p).size = d.size by rw [swp_size, HSZD.out])
                              clear hl
                              have c1 := HM5.out.arr.cell j SPQ.out.1
                              have c2 := HM5.out.arr.cell p SPQ.out.2
                              rw [← HX.out] at c1
                              rw [← HY.out] at c2
                              have f1 := HM5.out.arr.frozen (off + j)
                              have f2 := HM5.out.arr.frozen (off + p)
                              have hne : j ≠ p := by have := HPQ.out; omega
                              obtain ⟨v', hy'⟩ := cell?_setCell_some (w := ws) (p := ⟨g, off + j, none⟩) (x := .int .u32 (y : Int)) (q := ⟨g, off + p, none⟩) c2
                              clear hne
                              go_wp2_with fail
                              go_region
                              have HM6 := hid ((HM5.out.swap j p SPQ.out.1 SPQ.out.2).drew1)
                              rw [← HX.out, ← HY.out] at HM6
                              clear hy' c1 c2 f1 f2
                              go_wp2
                              go_roundw
                              case rel => exact ⟨j + 1, _, by have := HJ.out; omega, by have := HJB.out; omega, by go_num, HSS.out, HTE.out, HM6.out⟩
                              case measure => have := HJB.out; simp [intOf]; omega
                          · have hji : ¬ (j : Int) < (b : Int) := by omega
                            have HTE := hid (show d4 = T by rw [← HS4.out, Sort.shiftUp, if_neg hjb])
                            have HPE := hid (show Sort.partialIns ltN a b s0 i d4 = R by rw [HTE.out]; exact HPT.out)
                            clear hjb
                            go_wp2
                            go_roundw
                            case rel => exact ⟨k + 1, i, d4, by omega, by have := HIB.out; omega, by have := HIB.out; omega, by go_num, rfl, HSZD.out, by rw [show 5 - (k + 1) = s0 by have := HK.out; omega]; exact HPE.out, HM4.out⟩
                            case measure => have := HK.out; simp [intOf]; omega
                      · have hbii : ¬ (2 : Int) ≤ (bi : Int) := by have := HBI.out; omega
                        have HPE := hid (show Sort.partialIns ltN a b s0 i d3 = R by rw [← HPE0.out, if_neg hbi])
                        clear hbi
                        go_wp2
                        go_roundw
                        case rel => exact ⟨k + 1, i, d3, by omega, by have := HIB.out; omega, by have := HIB.out; omega, by go_num, rfl, HZZ.out, by rw [show 5 - (k + 1) = s0 by have := HK.out; omega]; exact HPE.out, HM3.out⟩
                        case measure => have := HK.out; simp [intOf]; omega
                    | succ p =>
                      obtain ⟨j, hj⟩ : ∃ j, j = p + 1 := ⟨_, rfl⟩
                      have hz : (1 : Int) ≤ (j : Int) := by omega
                      have ep : (j : Int) - 1 = (p : Int) := by omega
                      have HPQ := hid hj
                      rw [← hj] at HJ HS3
                      have SPQ := hid (show j < d3.size ∧ p < d3.size by have := HSZD.out; have := HBD.out; have := HJ.out; have := HP0.out; have := HIB.out; omega)
                      have ejj : ((p + 1 : Nat) : Int) = (j : Int) := by omega
                      rw [ejj]
                      have bp : (p : Int) ≤ 1000000000000 := by have := SPQ.out; have := HSZD.out; have := HSN.out; omega
                      clear hj ejj
                      have y1 := HM3.out.arr.cell j SPQ.out.1
                      have y2 := HM3.out.arr.cell p SPQ.out.2
                      have z1 : (j : Int) < (n : Int) := by have := SPQ.out; have := HSN.out; have := HSZD.out; omega
                      have z2 : (p : Int) < (n : Int) := by have := SPQ.out; have := HSN.out; have := HSZD.out; omega
                      have z3 : j < n := by omega
                      have z4 : p < n := by omega
                      obtain ⟨x, hx⟩ : ∃ x, x = d3[j]! := ⟨_, rfl⟩
                      obtain ⟨y, hy⟩ : ∃ y, y = d3[p]! := ⟨_, rfl⟩
                      rw [← hx] at y1
                      rw [← hy] at y2
                      have HX := hid hx
                      have HY := hid hy
                      clear hx hy
                      go_wp2_with fail
                      go_quiet ((go_at_call 91; exact Calls.quiet_of_same (less_any _ x y)))
                      have HM5 := hid (HM3.out.drew nq)
                      clear y1 y2
                      generalize wr.drewN nq = ws at *
                      cases hl : ltN x y with
                      | false =>
                        have HUE := hid (show d3 = U by rw [← HS3.out, HPQ.out, Sort.shiftDown, if_pos (by rw [← HPQ.out, ← HX.out, ← HY.out, hl]; rfl)])
                        have HPE0 := hid (show Sort.partialIns ltN a b s0 i (if 2 ≤ b - i then Sort.shiftUp ltN b (i + 1) d3 else d3) = R by rw [HUE.out]; exact HPU.out)
                        have HZZ := hid (show d3.size = d.size from HSZD.out)
                        clear hl HX HY SPQ HPQ
                        by_cases hbi : 2 ≤ b - i
                        · have hbii : (2 : Int) ≤ (bi : Int) := by have := HBI.out; omega
                          obtain ⟨T, hT⟩ : ∃ T, T = Sort.shiftUp ltN b i1 d3 := ⟨_, rfl⟩
                          have HT := hid hT
                          have HPT := hid (show Sort.partialIns ltN a b s0 i T = R by rw [← HPE0.out, if_pos hbi, hT, HI1.out])
                          have HSTT := hid (show T.size = d.size by rw [hT, shiftUp_size _ _ _ _ (Nat.le_refl _), HZZ.out])
                          clear hT hbi
                          go_wp2_with fail
                          go_loopw [10] (fun jv wr => ∃ (j : Nat) (d4 : Array Nat), i + 1 ≤ j ∧ j ≤ b ∧ jv = .int .i64 j ∧ d4.size = d.size ∧ Sort.shiftUp ltN b j d4 = T ∧ Made w g off pre tl d4 wr) (fun jv _ => b - (intOf jv).toNat)
                          case atStart => exact ⟨i1, d3, by have := HI1.out; omega, by have := HI1.out; have := HIB.out; omega, rfl, HZZ.out, HT.out.symm, HM5.out⟩
                          case round =>
                            obtain ⟨j, d4, hj1, hj2, rfl, hsz4, hS4, hM4⟩ := hrel
                            have HSZD := hid hsz4
                            have HS4 := hid hS4
                            have HM4 := hid hM4
                            have HJ := hid (show i + 1 ≤ j ∧ j ≤ b from ⟨hj1, hj2⟩)
                            clear hsz4 hS4 hM4 hj1 hj2
                            by_cases hjb : j < b
                            · have hji : (j : Int) < (b : Int) := by omega
                              obtain ⟨p, hp⟩ : ∃ p, j = p + 1 := ⟨j - 1, by have := HJ.out; omega⟩
                              have ep : (j : Int) - 1 = (p : Int) := by omega
                              have HPQ := hid hp
                              have SPQ := hid (show j < d4.size ∧ p < d4.size by have := HSZD.out; have := HBD.out; omega)
                              have bj : (j : Int) ≤ 1000000000000 := by have := HBD.out; have := HSN.out; omega
                              have HJB := hid hjb
                              clear hp hjb
                              have y1 := HM4.out.arr.cell j SPQ.out.1
                              have y2 := HM4.out.arr.cell p SPQ.out.2
                              have z1 : (j : Int) < (n : Int) := by have := SPQ.out; have := HSN.out; have := HSZD.out; omega
                              have z2 : (p : Int) < (n : Int) := by have := SPQ.out; have := HSN.out; have := HSZD.out; omega
                              have z3 : j < n := by omega
                              have z4 : p < n := by omega
                              obtain ⟨x, hx⟩ : ∃ x, x = d4[j]! := ⟨_, rfl⟩
                              obtain ⟨y, hy⟩ : ∃ y, y = d4[p]! := ⟨_, rfl⟩
                              rw [← hx] at y1
                              rw [← hy] at y2
                              have HX := hid hx
                              have HY := hid hy
                              clear hx hy
                              go_wp2_with fail
                              go_quiet ((go_at_call 91; exact Calls.quiet_of_same (less_any _ x y)))
                              have HM5 := hid (HM4.out.drew nq)
                              clear y1 y2
                              generalize wr.drewN nq = ws at *
                              cases hl : ltN x y with
                              | false =>
                                have HTE := hid (show d4 = T by rw [← HS4.out, Sort.shiftUp, if_pos HJB.out, if_pos (by rw [← HX.out, show j - 1 = p by have := HPQ.out; omega, ← HY.out, hl]; rfl)])
                                clear hl
                                have HPE := hid (show Sort.partialIns ltN a b s0 i d4 = R by rw [HTE.out]; exact HPT.out)
                                go_wp2
                                go_roundw
                                case rel => exact ⟨k + 1, i, d4, by omega, by have := HIB.out; omega, by have := HIB.out; omega, by go_num, rfl, HSZD.out, by rw [show 5 - (k + 1) = s0 by have := HK.out; omega]; exact HPE.out, HM5.out⟩
                                case measure => have := HK.out; simp [intOf]; omega
                              | true =>
                                have HTE := hid (show Sort.shiftUp ltN b (j + 1) (Sort.swp d4 j p) = T by
                                  rw [← HS4.out]
                                  conv => rhs; rw [Sort.shiftUp]
                                  rw [if_pos HJB.out, if_neg (by rw [← HX.out, show j - 1 = p by have := HPQ.out; omega, ← HY.out, hl]; simp), show j - 1 = p by have := HPQ.out; omega])
                                have HSS := hid (show (Sort.swp d4 j p).size = d.size by rw [swp_size, HSZD.out])
                                clear hl
                                have c1 := HM5.out.arr.cell j SPQ.out.1
                                have c2 := HM5.out.arr.cell p SPQ.out.2
                                rw [← HX.out] at c1
                                rw [← HY.out] at c2
                                have f1 := HM5.out.arr.frozen (off + j)
                                have f2 := HM5.out.arr.frozen (off + p)
                                have hne : j ≠ p := by have := HPQ.out; omega
                                obtain ⟨v', hy'⟩ := cell?_setCell_some (w := ws) (p := ⟨g, off + j, none⟩) (x := .int .u32 (y : Int)) (q := ⟨g, off + p, none⟩) c2
                                clear hne
                                go_wp2_with fail
                                go_region
                                have HM6 := hid ((HM5.out.swap j p SPQ.out.1 SPQ.out.2).drew1)
                                rw [← HX.out, ← HY.out] at HM6
                                clear hy' c1 c2 f1 f2
                                go_wp2
                                go_roundw
                                case rel => exact ⟨j + 1, _, by have := HJ.out; omega, by have := HJB.out; omega, by go_num, HSS.out, HTE.out, HM6.out⟩
                                case measure => have := HJB.out; simp [intOf]; omega
                            · have hji : ¬ (j : Int) < (b : Int) := by omega
                              have HTE := hid (show d4 = T by rw [← HS4.out, Sort.shiftUp, if_neg hjb])
                              have HPE := hid (show Sort.partialIns ltN a b s0 i d4 = R by rw [HTE.out]; exact HPT.out)
                              clear hjb
                              go_wp2
                              go_roundw
                              case rel => exact ⟨k + 1, i, d4, by omega, by have := HIB.out; omega, by have := HIB.out; omega, by go_num, rfl, HSZD.out, by rw [show 5 - (k + 1) = s0 by have := HK.out; omega]; exact HPE.out, HM4.out⟩
                              case measure => have := HK.out; simp [intOf]; omega
                        · have hbii : ¬ (2 : Int) ≤ (bi : Int) := by have := HBI.out; omega
                          have HPE := hid (show Sort.partialIns ltN a b s0 i d3 = R by rw [← HPE0.out, if_neg hbi])
                          clear hbi
                          go_wp2
                          go_roundw
                          case rel => exact ⟨k + 1, i, d3, by omega, by have := HIB.out; omega, by have := HIB.out; omega, by go_num, rfl, HZZ.out, by rw [show 5 - (k + 1) = s0 by have := HK.out; omega]; exact HPE.out, HM5.out⟩
                          case measure => have := HK.out; simp [intOf]; omega
                      | true =>
                        have HUE := hid (show Sort.shiftDown ltN p (Sort.swp d3 j p) = U by
                          rw [← HS3.out]
                          conv => rhs; rw [HPQ.out, Sort.shiftDown]
                          rw [if_neg (by rw [← HPQ.out, ← HX.out, ← HY.out, hl]; simp), ← HPQ.out])
                        have HSS := hid (show (Sort.swp d3 j p).size = d.size by rw [swp_size, HSZD.out])
                        clear hl
                        have c1 := HM5.out.arr.cell j SPQ.out.1
                        have c2 := HM5.out.arr.cell p SPQ.out.2
                        rw [← HX.out] at c1
                        rw [← HY.out] at c2
                        have f1 := HM5.out.arr.frozen (off + j)
                        have f2 := HM5.out.arr.frozen (off + p)
                        have hne : j ≠ p := by have := HPQ.out; omega
                        obtain ⟨v', hy'⟩ := cell?_setCell_some (w := ws) (p := ⟨g, off + j, none⟩) (x := .int .u32 (y : Int)) (q := ⟨g, off + p, none⟩) c2
                        clear hne
                        go_wp2_with fail
                        go_region
                        have HM6 := hid ((HM5.out.swap j p SPQ.out.1 SPQ.out.2).drew1)
                        rw [← HX.out, ← HY.out] at HM6
                        clear hy' c1 c2 f1 f2
                        go_wp2
                        go_roundw
                        case rel => exact ⟨p, _, by have := HJ.out; have := HPQ.out; omega, rfl, HSS.out, HUE.out, HM6.out⟩
                        case measure => have := HPQ.out; simp [intOf]; omega
                · have hiai : ¬ (2 : Int) ≤ (ia : Int) := by have := HIA.out; omega
                  have HPE0 := hid (show Sort.partialIns ltN a b s0 i (if 2 ≤ b - i then Sort.shiftUp ltN b (i + 1) D2 else D2) = R by rw [← HPX.out, if_neg hia])
                  clear hia
                  by_cases hbi : 2 ≤ b - i
                  · have hbii : (2 : Int) ≤ (bi : Int) := by have := HBI.out; omega
                    obtain ⟨T, hT⟩ : ∃ T, T = Sort.shiftUp ltN b i1 D2 := ⟨_, rfl⟩
                    have HT := hid hT
                    have HPT := hid (show Sort.partialIns ltN a b s0 i T = R by rw [← HPE0.out, if_pos hbi, hT, HI1.out])
                    have HSTT := hid (show T.size = d.size by rw [hT, shiftUp_size _ _ _ _ (Nat.le_refl _), HSD2.out])
                    clear hT hbi
                    go_wp2_with fail
                    go_loopw [10] (fun jv wr => ∃ (j : Nat) (d4 : Array Nat), i + 1 ≤ j ∧ j ≤ b ∧ jv = .int .i64 j ∧ d4.size = d.size ∧ Sort.shiftUp ltN b j d4 = T ∧ Made w g off pre tl d4 wr) (fun jv _ => b - (intOf jv).toNat)
                    case atStart => exact ⟨i1, D2, by have := HI1.out; omega, by have := HI1.out; have := HIB.out; omega, rfl, HSD2.out, HT.out.symm, HMX.out⟩
                    case round =>
                      obtain ⟨j, d4, hj1, hj2, rfl, hsz4, hS4, hM4⟩ := hrel
                      have HSZD := hid hsz4
                      have HS4 := hid hS4
                      have HM4 := hid hM4
                      have HJ := hid (show i + 1 ≤ j ∧ j ≤ b from ⟨hj1, hj2⟩)
                      clear hsz4 hS4 hM4 hj1 hj2
                      by_cases hjb : j < b
                      · have hji : (j : Int) < (b : Int) := by omega
                        obtain ⟨p, hp⟩ : ∃ p, j = p + 1 := ⟨j - 1, by have := HJ.out; omega⟩
                        have ep : (j : Int) - 1 = (p : Int) := by omega
                        have HPQ := hid hp
                        have SPQ := hid (show j < d4.size ∧ p < d4.size by have := HSZD.out; have := HBD.out; omega)
                        have bj : (j : Int) ≤ 1000000000000 := by have := HBD.out; have := HSN.out; omega
                        have HJB := hid hjb
                        clear hp hjb
                        have y1 := HM4.out.arr.cell j SPQ.out.1
                        have y2 := HM4.out.arr.cell p SPQ.out.2
                        have z1 : (j : Int) < (n : Int) := by have := SPQ.out; have := HSN.out; have := HSZD.out; omega
                        have z2 : (p : Int) < (n : Int) := by have := SPQ.out; have := HSN.out; have := HSZD.out; omega
                        have z3 : j < n := by omega
                        have z4 : p < n := by omega
                        obtain ⟨x, hx⟩ : ∃ x, x = d4[j]! := ⟨_, rfl⟩
                        obtain ⟨y, hy⟩ : ∃ y, y = d4[p]! := ⟨_, rfl⟩
                        rw [← hx] at y1
                        rw [← hy] at y2
                        have HX := hid hx
                        have HY := hid hy
                        clear hx hy
                        go_wp2_with fail
                        go_quiet ((go_at_call 91; exact Calls.quiet_of_same (less_any _ x y)))
                        have HM5 := hid (HM4.out.drew nq)
                        clear y1 y2
                        generalize wr.drewN nq = ws at *
                        cases hl : ltN x y with
                        | false =>
                          have HTE := hid (show d4 = T by rw [← HS4.out, Sort.shiftUp, if_pos HJB.out, if_pos (by rw [← HX.out, show j - 1 = p by have := HPQ.out; omega, ← HY.out, hl]; rfl)])
                          clear hl
                          have HPE := hid (show Sort.partialIns ltN a b s0 i d4 = R by rw [HTE.out]; exact HPT.out)
                          go_wp2
                          go_roundw
                          case rel => exact ⟨k + 1, i, d4, by omega, by have := HIB.out; omega, by have := HIB.out; omega, by go_num, rfl, HSZD.out, by rw [show 5 - (k + 1) = s0 by have := HK.out; omega]; exact HPE.out, HM5.out⟩
                          case measure => have := HK.out; simp [intOf]; omega
                        | true =>
                          have HTE := hid (show Sort.shiftUp ltN b (j + 1) (Sort.swp d4 j p) = T by
                            rw [← HS4.out]
                            conv => rhs; rw [Sort.shiftUp]
                            rw [if_pos HJB.out, if_neg (by rw [← HX.out, show j - 1 = p by have := HPQ.out; omega, ← HY.out, hl]; simp), show j - 1 = p by have := HPQ.out; omega])
                          have HSS := hid (show (Sort.swp d4 j p).size = d.size by rw [swp_size, HSZD.out])
                          clear hl
                          have c1 := HM5.out.arr.cell j SPQ.out.1
                          have c2 := HM5.out.arr.cell p SPQ.out.2
                          rw [← HX.out] at c1
                          rw [← HY.out] at c2
                          have f1 := HM5.out.arr.frozen (off + j)
                          have f2 := HM5.out.arr.frozen (off + p)
                          have hne : j ≠ p := by have := HPQ.out; omega
                          obtain ⟨v', hy'⟩ := cell?_setCell_some (w := ws) (p := ⟨g, off + j, none⟩) (x := .int .u32 (y : Int)) (q := ⟨g, off + p, none⟩) c2
                          clear hne
                          go_wp2_with fail
                          go_region
                          have HM6 := hid ((HM5.out.swap j p SPQ.out.1 SPQ.out.2).drew1)
                          rw [← HX.out, ← HY.out] at HM6
                          clear hy' c1 c2 f1 f2
                          go_wp2
                          go_roundw
                          case rel => exact ⟨j + 1, _, by have := HJ.out; omega, by have := HJB.out; omega, by go_num, HSS.out, HTE.out, HM6.out⟩
                          case measure => have := HJB.out; simp [intOf]; omega
                      · have hji : ¬ (j : Int) < (b : Int) := by omega
                        have HTE := hid (show d4 = T by rw [← HS4.out, Sort.shiftUp, if_neg hjb])
                        have HPE := hid (show Sort.partialIns ltN a b s0 i d4 = R by rw [HTE.out]; exact HPT.out)
                        clear hjb
                        go_wp2
                        go_roundw
                        case rel => exact ⟨k + 1, i, d4, by omega, by have := HIB.out; omega, by have := HIB.out; omega, by go_num, rfl, HSZD.out, by rw [show 5 - (k + 1) = s0 by have := HK.out; omega]; exact HPE.out, HM4.out⟩
                        case measure => have := HK.out; simp [intOf]; omega
                  · have hbii : ¬ (2 : Int) ≤ (bi : Int) := by have := HBI.out; omega
                    have HPE := hid (show Sort.partialIns ltN a b s0 i D2 = R by rw [← HPE0.out, if_neg hbi])
                    clear hbi
                    go_wp2
                    go_roundw
                    case rel => exact ⟨k + 1, i, D2, by omega, by have := HIB.out; omega, by have := HIB.out; omega, by go_num, rfl, HSD2.out, by rw [show 5 - (k + 1) = s0 by have := HK.out; omega]; exact HPE.out, HMX.out⟩
                    case measure => have := HK.out; simp [intOf]; omega
    · have hki : ¬ (k : Int) < 5 := by omega
      have HRE := hid (show R = (d1, false) by rw [← HF.out, show 5 - k = 0 by omega]; rfl)
      clear hk hk5
      go_wp2
      go_ret
      rw [HRE.out]
      exact ⟨rfl, HM.out⟩

end Go.Proofs.Ytdongghjchnpbaa
