/-
  slices.Sort at []uint32: partitionOrdered, partitionEqualOrdered.
-/
import Derived.Test.YtdongghjchnpbaaSrtE
import Derived.Deep.Cut
import Derived.Deep.CutRange
import Derived.Deep.CutBlock
namespace Go.Proofs.Ytdongghjchnpbaa
open Go.RowKit
set_option linter.unusedVariables false

theorem parteq_end {a i j i2 j2 : Nat} {d : Array Nat} (h2 : i2 = Sort.scanUp (fun x => !ltN d[a]! x) d j i) (h3 : j2 = Sort.scanDown (fun x => ltN d[a]! x) d i2 j) (h : j2 < i2) : Sort.partEqLoop ltN a i j d = (i2, d) := by
  rw [Sort.partEqLoop_eq]
  subst h2
  subst h3
  exact if_pos h
theorem parteq_go {a i j i2 j2 : Nat} {d : Array Nat} (h2 : i2 = Sort.scanUp (fun x => !ltN d[a]! x) d j i) (h3 : j2 = Sort.scanDown (fun x => ltN d[a]! x) d i2 j) (h : ¬ j2 < i2) : Sort.partEqLoop ltN a i j d = Sort.partEqLoop ltN a (i2 + 1) (j2 - 1) (Sort.swp d i2 j2) := by
  conv => lhs; rw [Sort.partEqLoop_eq]
  subst h2
  subst h3
  exact if_neg h
theorem part_end {a i j i2 j2 : Nat} {d : Array Nat} (h2 : i2 = Sort.scanUp (fun x => ltN x d[a]!) d j i) (h3 : j2 = Sort.scanDown (fun x => !ltN x d[a]!) d i2 j) (h : j2 < i2) : Sort.partLoop ltN a i j d = (j2, d) := by
  rw [Sort.partLoop_eq]
  subst h2
  subst h3
  exact if_pos h
theorem part_go {a i j i2 j2 : Nat} {d : Array Nat} (h2 : i2 = Sort.scanUp (fun x => ltN x d[a]!) d j i) (h3 : j2 = Sort.scanDown (fun x => !ltN x d[a]!) d i2 j) (h : ¬ j2 < i2) : Sort.partLoop ltN a i j d = Sort.partLoop ltN a (i2 + 1) (j2 - 1) (Sort.swp d i2 j2) := by
  conv => lhs; rw [Sort.partLoop_eq]
  subst h2
  subst h3
  exact if_neg h

set_option maxRecDepth 100000 in
set_option maxHeartbeats 16000000 in
theorem parteq_any (w : World) (g off n cap : Nat) (pre tl : List Value) (d : Array Nat) (a b pivot : Nat) (h : ArrAt w g off pre tl d) (hn : d.size ≤ n) (hab : a + 1 < b) (hb : b ≤ d.size) (hp1 : a ≤ pivot) (hp2 : pivot < b) (hm : n ≤ 1000000000000) :
    Calls Try.prog 92 #[.slice (some ⟨g, off, none⟩) n cap, .int .i64 a, .int .i64 b, .int .i64 pivot] w fun e w' => e = .returned (.int .i64 (Sort.partitionEqual ltN d a b pivot).1) ∧ Made w g off pre tl (Sort.partitionEqual ltN d a b pivot).2 w' := by
  have HM0 := hid (Made.refl h)
  obtain ⟨b0, hb0⟩ : ∃ b0, b0 = b - 1 := ⟨_, rfl⟩
  obtain ⟨a1, ha1⟩ : ∃ a1, a1 = a + 1 := ⟨_, rfl⟩
  obtain ⟨R, hR⟩ : ∃ R, R = Sort.partEqLoop ltN a a1 b0 (Sort.swp d a pivot) := ⟨_, rfl⟩
  have hRR : Sort.partitionEqual ltN d a b pivot = R := by rw [hR, ha1, hb0]; rfl
  rw [hRR]
  have HR := hid hR
  have e1 : (a : Int) + 1 = (a1 : Int) := by omega
  have e2 : (b : Int) - 1 = (b0 : Int) := by omega
  have HSN := hid (show d.size ≤ n ∧ n ≤ 1000000000000 from ⟨hn, hm⟩)
  have HSZ := hid (show d.size = d.size from rfl)
  have HBD := hid (show a < b0 ∧ b0 < d.size ∧ a1 = a + 1 ∧ b0 + 1 = b by omega)
  have HPV := hid (show pivot < d.size ∧ a < d.size by omega)
  have q1 : (n : Int) ≤ 1000000000000 := by omega
  have q2 : (b : Int) ≤ (n : Int) := by omega
  have q3 : (a : Int) ≤ (n : Int) := by omega
  clear h hn hab hb hp1 hp2 hb0 ha1 hR hRR hm
  go_enter Try.func92, Try.ntmps92
  go_wp2_with fail
  have si : a < d.size := HPV.out.2
  have sj : pivot < d.size := HPV.out.1
  have SIJ := hid (show a < d.size ∧ pivot < d.size from ⟨si, sj⟩)
  have c1 := HM0.out.arr.cell a si
  have c2 := HM0.out.arr.cell pivot sj
  have f1 := HM0.out.arr.frozen (off + a)
  have f2 := HM0.out.arr.frozen (off + pivot)
  obtain ⟨v', hy'⟩ := cell?_setCell_some (w := w) (p := ⟨g, off + a, none⟩) (x := .int .u32 ((d[pivot]! : Nat) : Int)) (q := ⟨g, off + pivot, none⟩) c2
  have z1 : (a : Int) < (n : Int) := by have := HSN.out; have := HSZ.out; omega
  have z2 : (pivot : Int) < (n : Int) := by have := HSN.out; have := HSZ.out; omega
  have z3 : a < n := by omega
  have z4 : pivot < n := by omega
  clear si sj
  generalize hx : d[a]! = x at *
  generalize hy : d[pivot]! = y at *
  have HX := hid hx
  have HY := hid hy
  clear hx hy
  go_wp2_with fail
  go_region
  have HM1 := hid ((HM0.out.swap a pivot SIJ.out.1 SIJ.out.2).drew1)
  rw [HX.out, HY.out] at HM1
  clear hy' c1 c2 f1 f2 z1 z2 z3 z4 HX HY
  have HS1 := hid (show (Sort.swp d a pivot).size = d.size from swp_size _ _ _)
  clear HSZ
  go_wp2_with fail
  go_loopw [9, 10] (fun iv jv wr => ∃ (i j : Nat) (d1 : Array Nat), a < i ∧ i ≤ j + 1 ∧ j < b0 + 1 ∧ iv = .int .i64 i ∧ jv = .int .i64 j ∧ d1.size = d.size ∧ Sort.partEqLoop ltN a i j d1 = R ∧ Made w g off pre tl d1 wr) (fun iv jv _ => (intOf jv).toNat + 1 - (intOf iv).toNat)
  case atStart => exact ⟨a1, b0, _, by have := HBD.out; omega, by have := HBD.out; omega, by omega, rfl, rfl, HS1.out, HR.out.symm, HM1.out⟩
  case round =>
    obtain ⟨i0, j0, d1, ha0, hij, hjb, rfl, rfl, hsz, hF, hM⟩ := hrel
    have HSZ := hid hsz
    have HF := hid hF
    have HM2 := hid hM
    have HIJ := hid (show a < i0 ∧ i0 ≤ j0 + 1 ∧ j0 ≤ b0 by omega)
    have HBD := hid (show a < d.size ∧ j0 < d.size by have := HBD.out; omega)
    have w1 : (j0 : Int) ≤ (n : Int) := by have := HBD.out; have := HSN.out; omega
    have w2 : (i0 : Int) ≤ (n : Int) + 1 := by have := HIJ.out; omega
    clear ha0 hij hjb hsz hF hM
    obtain ⟨wq, hwq⟩ : ∃ wq, wq = wr := ⟨_, rfl⟩
    subst hwq
    go_wp2_with fail
    obtain ⟨R2, hR⟩ : ∃ R, R = Sort.scanUp (fun x => !ltN d1[a]! x) d1 j0 i0 := ⟨_, rfl⟩
    have HR2 := hid hR
    clear hR
    go_loopw [9] (fun iv wr => ∃ i : Nat, i0 ≤ i ∧ i ≤ j0 + 1 ∧ iv = .int .i64 i ∧ Sort.scanUp (fun x => !ltN d1[a]! x) d1 j0 i = R2 ∧ Made w g off pre tl d1 wr) (fun iv _ => j0 + 1 - (intOf iv).toNat)
    case atStart => exact ⟨i0, Nat.le_refl _, by have := HIJ.out; omega, rfl, HR2.out.symm, HM2.out⟩
    case round =>
      obtain ⟨i, hv1, hv2, rfl, hS, hM⟩ := hrel
      have HV := hid (show i0 ≤ i ∧ i ≤ j0 + 1 from ⟨hv1, hv2⟩)
      have HS := hid hS
      have HMS := hid hM
      clear hv1 hv2 hS hM
      obtain ⟨B, hB⟩ : ∃ B, B = (decide (i ≤ j0) && !ltN d1[a]! d1[i]!) := ⟨_, rfl⟩
      have HBB := hid hB
      clear hB
      go_upto_region 3 with (fail)
      go_cut [43] from 29 to 45 (fun bv wx => bv = .bool B ∧ Made w g off pre tl d1 wx)
      case first =>
        by_cases hle : i ≤ j0
        · have y1 := HMS.out.arr.cell i (by have := HV.out; have := HBD.out; have := HSZ.out; omega)
          have y2 := HMS.out.arr.cell a (by have := HBD.out; have := HSZ.out; omega)
          have hlei : (i : Int) ≤ (j0 : Int) := by omega
          have dle : decide (i ≤ j0) = true := by simpa using hle
          have z1 : (i : Int) < (n : Int) := by have := HV.out; have := HBD.out; have := HSN.out; omega
          have z2 : (a : Int) < (n : Int) := by have := HBD.out; have := HSN.out; omega
          have z3 : i < n := by omega
          have z4 : a < n := by omega
          have HE := hid (show B = !ltN d1[a]! d1[i]! by rw [HBB.out, dle, Bool.true_and])
          clear HBB hle
          generalize d1[i]! = x at *
          generalize d1[a]! = y at *
          go_quiet ((go_at_call 91; exact Calls.quiet_of_same (less_any _ y x)))
          go_wp2_with fail
          go_meet
          case rel => exact ⟨by rw [HE.out], HMS.out.drew nq⟩
        · have hlei : ¬ (i : Int) ≤ (j0 : Int) := by omega
          have dle : decide (i ≤ j0) = false := by simpa using hle
          have HE := hid (show B = false by rw [HBB.out, dle, Bool.false_and])
          clear HBB hle
          go_quiet (fail)
          go_wp2_with fail
          go_meet
          case rel => exact ⟨by rw [HE.out], HMS.out.drew nq⟩
      case rest =>
        obtain ⟨rfl, hMC⟩ := hcut
        have HMC := hid hMC
        clear hMC
        cases B with
        | true =>
          have HQ := hid (show i ≤ j0 ∧ (!ltN d1[a]! d1[i]!) = true by
            have h := HBB.out.symm
            rw [Bool.and_eq_true, decide_eq_true_eq] at h
            exact h)
          have HS2 := hid (show Sort.scanUp (fun x => !ltN d1[a]! x) d1 j0 (i + 1) = R2 by
            rw [← HS.out]
            conv => rhs; rw [Sort.scanUp]
            rw [if_pos (by rw [Bool.and_eq_true, decide_eq_true_eq]; exact HQ.out)])
          clear HBB
          have bi : (i : Int) ≤ 1000000000000 := by have := HQ.out.1; have := HBD.out; have := HSN.out; omega
          go_wp2_with fail
          go_roundw
          case rel => exact ⟨i + 1, by have := HV.out; omega, by have := HQ.out.1; omega, by go_num, HS2.out, HMC.out⟩
          case measure => have := HQ.out.1; simp [intOf]; omega
        | false =>
          have HQ := hid (show ¬ (i ≤ j0 ∧ (!ltN d1[a]! d1[i]!) = true) by
            have h := HBB.out.symm
            intro hh
            rw [(Bool.and_eq_true _ _).mpr ⟨decide_eq_true hh.1, hh.2⟩] at h
            exact absurd h (by simp))
          have HFI := hid (show i = R2 by
            rw [← HS.out, Sort.scanUp, if_neg (by rw [Bool.and_eq_true, decide_eq_true_eq]; exact HQ.out)])
          clear HBB
          obtain rfl : i = R2 := HFI.out
          clear HFI
          have HQ2 := HQ
          clear HQ
          have HV2 := hid (show i0 ≤ i ∧ i ≤ j0 + 1 from HV.out)
          have HLO := hid (show i ≤ j0 + 1 ∧ 1 ≤ i by have := HV.out; have := HIJ.out; omega)
          go_wp2_with fail
          obtain ⟨wq2, hwq2⟩ : ∃ wq, wq = wc := ⟨_, rfl⟩
          subst hwq2
          obtain ⟨R3, hR⟩ : ∃ R, R = Sort.scanDown (fun x => ltN d1[a]! x) d1 i j0 := ⟨_, rfl⟩
          have HR3 := hid hR
          clear hR
          go_loopw [10] (fun iv wr => ∃ j : Nat, j ≤ j0 ∧ i ≤ j + 1 ∧ iv = .int .i64 j ∧ Sort.scanDown (fun x => ltN d1[a]! x) d1 i j = R3 ∧ Made w g off pre tl d1 wr) (fun iv _ => (intOf iv).toNat)
          case atStart => exact ⟨j0, Nat.le_refl _, by have := HLO.out; omega, rfl, HR3.out.symm, HMC.out⟩
          case round =>
            obtain ⟨j, hv1, hv2, rfl, hS, hM⟩ := hrel
            have HV := hid (show j ≤ j0 ∧ i ≤ j + 1 from ⟨hv1, hv2⟩)
            have HS := hid hS
            have HMS := hid hM
            clear hv1 hv2 hS hM
            obtain ⟨B, hB⟩ : ∃ B, B = (decide (i ≤ j) && ltN d1[a]! d1[j]!) := ⟨_, rfl⟩
            have HBB := hid hB
            clear hB
            go_upto_region 5 with (fail)
            go_cut [59] from 46 to 61 (fun bv wx => bv = .bool B ∧ Made w g off pre tl d1 wx)
            case first =>
              by_cases hle : i ≤ j
              · have y1 := HMS.out.arr.cell j (by have := HV.out; have := HBD.out; have := HSZ.out; omega)
                have y2 := HMS.out.arr.cell a (by have := HBD.out; have := HSZ.out; omega)
                have hlei : (i : Int) ≤ (j : Int) := by omega
                have dle : decide (i ≤ j) = true := by simpa using hle
                have z1 : (j : Int) < (n : Int) := by have := HV.out; have := HBD.out; have := HSN.out; omega
                have z2 : (a : Int) < (n : Int) := by have := HBD.out; have := HSN.out; omega
                have z3 : j < n := by omega
                have z4 : a < n := by omega
                have HE := hid (show B = ltN d1[a]! d1[j]! by rw [HBB.out, dle, Bool.true_and])
                clear HBB hle
                generalize d1[j]! = x at *
                generalize d1[a]! = y at *
                go_quiet ((go_at_call 91; exact Calls.quiet_of_same (less_any _ y x)))
                go_wp2_with fail
                go_meet
                case rel => exact ⟨by rw [HE.out], HMS.out.drew nq⟩
              · have hlei : ¬ (i : Int) ≤ (j : Int) := by omega
                have dle : decide (i ≤ j) = false := by simpa using hle
                have HE := hid (show B = false by rw [HBB.out, dle, Bool.false_and])
                clear HBB hle
                go_quiet (fail)
                go_wp2_with fail
                go_meet
                case rel => exact ⟨by rw [HE.out], HMS.out.drew nq⟩
            case rest =>
              obtain ⟨rfl, hMC⟩ := hcut
              have HMC := hid hMC
              clear hMC
              cases B with
              | true =>
                have HQ := hid (show i ≤ j ∧ (ltN d1[a]! d1[j]!) = true by
                  have h := HBB.out.symm
                  rw [Bool.and_eq_true, decide_eq_true_eq] at h
                  exact h)
                obtain ⟨j0, hj0⟩ : ∃ j0, j = j0 + 1 := ⟨j - 1, by have := HQ.out.1; have := HLO.out; omega⟩
                have ej : (j : Int) - 1 = (j0 : Int) := by omega
                have HJ0 := hid hj0
                have HS2 := hid (show Sort.scanDown (fun x => ltN d1[a]! x) d1 i j0 = R3 by
                  rw [← HS.out, hj0]
                  conv => rhs; rw [Sort.scanDown]
                  rw [if_pos (by rw [Bool.and_eq_true, decide_eq_true_eq, ← hj0]; exact HQ.out)])
                clear HBB hj0
                have bj : (j0 : Int) ≤ 1000000000000 := by have := HJ0.out; have := HV.out; have := HBD.out; have := HSN.out; omega
                go_wp2_with fail
                go_roundw
                case rel => exact ⟨j0, by have := HV.out; have := HJ0.out; omega, by have := HQ.out.1; have := HJ0.out; omega, rfl, HS2.out, HMC.out⟩
                case measure => have := HJ0.out; simp [intOf]; omega
              | false =>
                have HQ := hid (show ¬ (i ≤ j ∧ (ltN d1[a]! d1[j]!) = true) by
                  have h := HBB.out.symm
                  intro hh
                  rw [(Bool.and_eq_true _ _).mpr ⟨decide_eq_true hh.1, hh.2⟩] at h
                  exact absurd h (by simp))
                have HFI := hid (show j = R3 by
                  rw [← HS.out]
                  cases j with
                  | zero => rfl
                  | succ j0 => rw [Sort.scanDown, if_neg (by rw [Bool.and_eq_true, decide_eq_true_eq]; exact HQ.out)])
                clear HBB
                obtain rfl : j = R3 := HFI.out
                clear HFI
                have HV3 := hid (show j ≤ j0 ∧ i ≤ j + 1 from HV.out)
                by_cases hgt : j < i
                · have hgti : (j : Int) < (i : Int) := by omega
                  have HRE := hid (show R = (i, d1) by rw [← HF.out]; exact parteq_end HR2.out HR3.out hgt)
                  clear hgt
                  go_wp2
                  go_ret
                  exact ⟨by rw [HRE.out]; rfl, by rw [HRE.out]; exact HMC.out⟩
                · have hgti : ¬ (j : Int) < (i : Int) := by omega
                  obtain ⟨j1, hj1⟩ : ∃ j1, j1 = j - 1 := ⟨_, rfl⟩
                  have ej1 : (j : Int) - 1 = (j1 : Int) := by have := HV3.out; have := HLO.out; omega
                  have HRE := hid (show Sort.partEqLoop ltN a (i + 1) j1 (Sort.swp d1 i j) = R by rw [← HF.out, hj1]; exact (parteq_go HR2.out HR3.out hgt).symm)
                  have HJ1 := hid (show j1 + 1 = j ∧ i < j by
                    have hne : i ≠ j := fun e => by
                      subst e
                      have a1 := HQ2.out
                      have a2 := HQ.out
                      have hv := HV3.out
                      cases hc : ltN d1[a]! d1[i]! <;> simp [hc] at a1 a2 <;> omega
                    have := HV3.out; have := HLO.out; omega)
                  clear HQ2 HQ
                  have HS4 := hid (show (Sort.swp d1 i j).size = d.size by rw [swp_size, HSZ.out])
                  have bi2 : (i : Int) ≤ 1000000000000 := by have := HJ1.out; have := HV3.out; have := HBD.out; have := HSN.out; omega
                  have bj2 : (j1 : Int) ≤ 1000000000000 := by have := HJ1.out; have := HV3.out; have := HBD.out; have := HSN.out; omega
                  clear hgt hj1
                  have si : i < d1.size := by have := HJ1.out; have := HV3.out; have := HBD.out; have := HSZ.out; omega
                  have sj : j < d1.size := by have := HV3.out; have := HBD.out; have := HSZ.out; omega
                  have SIJ := hid (show i < d1.size ∧ j < d1.size from ⟨si, sj⟩)
                  have c1 := HMC.out.arr.cell i si
                  have c2 := HMC.out.arr.cell j sj
                  have f1 := HMC.out.arr.frozen (off + i)
                  have f2 := HMC.out.arr.frozen (off + j)
                  obtain ⟨v', hy'⟩ := cell?_setCell_some (w := wc) (p := ⟨g, off + i, none⟩) (x := .int .u32 ((d1[j]! : Nat) : Int)) (q := ⟨g, off + j, none⟩) c2
                  have z1 : (i : Int) < (n : Int) := by have := HSN.out; have := HSZ.out; omega
                  have z2 : (j : Int) < (n : Int) := by have := HSN.out; have := HSZ.out; omega
                  have z3 : i < n := by omega
                  have z4 : j < n := by omega
                  clear si sj
                  generalize hx : d1[i]! = x at *
                  generalize hy : d1[j]! = y at *
                  have HX := hid hx
                  have HY := hid hy
                  clear hx hy
                  go_wp2_with fail
                  go_region
                  have HM5 := hid ((HMC.out.swap i j SIJ.out.1 SIJ.out.2).drew1)
                  rw [HX.out, HY.out] at HM5
                  clear hy' c1 c2 f1 f2 z1 z2 z3 z4 HX HY
                  go_wp2
                  go_roundw
                  case rel =>
                    exact ⟨i + 1, j1, _, by have := HIJ.out; have := HV2.out; omega, by have := HJ1.out; omega, by have := HJ1.out; have := HV3.out; have := HIJ.out; omega, by go_num, rfl, HS4.out, HRE.out, HM5.out⟩
                  case measure => have := HJ1.out; have := HV3.out; have := HV2.out; have := HIJ.out; simp [intOf]; omega

theorem partition_end {d d1 : Array Nat} {a b pivot i j a1 b0 : Nat} (hd : d1 = Sort.swp d a pivot) (ha : a1 = a + 1) (hb : b0 = b - 1) (h2 : i = Sort.scanUp (fun x => ltN x d1[a]!) d1 b0 a1) (h3 : j = Sort.scanDown (fun x => !ltN x d1[a]!) d1 i b0) (h : j < i) : Sort.partition ltN d a b pivot = (j, true, Sort.swp d1 j a) := by
  subst hd ha hb h2 h3
  exact if_pos h
theorem partition_go {d d1 : Array Nat} {a b pivot i j a1 b0 : Nat} (hd : d1 = Sort.swp d a pivot) (ha : a1 = a + 1) (hb : b0 = b - 1) (h2 : i = Sort.scanUp (fun x => ltN x d1[a]!) d1 b0 a1) (h3 : j = Sort.scanDown (fun x => !ltN x d1[a]!) d1 i b0) (h : ¬ j < i) : Sort.partition ltN d a b pivot = ((Sort.partLoop ltN a (i + 1) (j - 1) (Sort.swp d1 i j)).1, false, Sort.swp (Sort.partLoop ltN a (i + 1) (j - 1) (Sort.swp d1 i j)).2 (Sort.partLoop ltN a (i + 1) (j - 1) (Sort.swp d1 i j)).1 a) := by
  subst hd ha hb h2 h3
  exact if_neg h

set_option maxRecDepth 100000 in
set_option maxHeartbeats 16000000 in
theorem partition_any (w : World) (g off n cap : Nat) (pre tl : List Value) (d : Array Nat) (a b pivot : Nat) (h : ArrAt w g off pre tl d) (hn : d.size ≤ n) (hab : a + 1 < b) (hb : b ≤ d.size) (hp1 : a ≤ pivot) (hp2 : pivot < b) (hm : n ≤ 1000000000000) :
    Calls Try.prog 93 #[.slice (some ⟨g, off, none⟩) n cap, .int .i64 a, .int .i64 b, .int .i64 pivot] w fun e w' => e = .returned (.tuple #[.int .i64 (Sort.partition ltN d a b pivot).1, .bool (Sort.partition ltN d a b pivot).2.1]) ∧ Made w g off pre tl (Sort.partition ltN d a b pivot).2.2 w' := by
  have HM0 := hid (Made.refl h)
  obtain ⟨b0, hb0⟩ : ∃ b0, b0 = b - 1 := ⟨_, rfl⟩
  obtain ⟨a1, ha1⟩ : ∃ a1, a1 = a + 1 := ⟨_, rfl⟩
  have HAB := hid (show a1 = a + 1 ∧ b0 = b - 1 from ⟨ha1, hb0⟩)
  obtain ⟨R, hR⟩ : ∃ R, R = Sort.partition ltN d a b pivot := ⟨_, rfl⟩
  rw [← hR]
  have HR := hid hR
  have e1 : (a : Int) + 1 = (a1 : Int) := by omega
  have e2 : (b : Int) - 1 = (b0 : Int) := by omega
  have HSN := hid (show d.size ≤ n ∧ n ≤ 1000000000000 from ⟨hn, hm⟩)
  have HSZ := hid (show d.size = d.size from rfl)
  have HBD0 := hid (show a < b0 ∧ b0 < d.size ∧ a1 = a + 1 ∧ b0 + 1 = b by omega)
  have HPV := hid (show pivot < d.size ∧ a < d.size by omega)
  have q1 : (n : Int) ≤ 1000000000000 := by omega
  have q2 : (b : Int) ≤ (n : Int) := by omega
  have q3 : (a : Int) ≤ (n : Int) := by omega
  clear h hn hab hb hp1 hp2 hb0 ha1 hR hm
  go_enter Try.func93, Try.ntmps93
  go_wp2_with fail
  have si : a < d.size := HPV.out.2
  have sj : pivot < d.size := HPV.out.1
  have SIJ := hid (show a < d.size ∧ pivot < d.size from ⟨si, sj⟩)
  have c1 := HM0.out.arr.cell a si
  have c2 := HM0.out.arr.cell pivot sj
  have f1 := HM0.out.arr.frozen (off + a)
  have f2 := HM0.out.arr.frozen (off + pivot)
  obtain ⟨v', hy'⟩ := cell?_setCell_some (w := w) (p := ⟨g, off + a, none⟩) (x := .int .u32 ((d[pivot]! : Nat) : Int)) (q := ⟨g, off + pivot, none⟩) c2
  have z1 : (a : Int) < (n : Int) := by have := HSN.out; have := HSZ.out; omega
  have z2 : (pivot : Int) < (n : Int) := by have := HSN.out; have := HSZ.out; omega
  have z3 : a < n := by omega
  have z4 : pivot < n := by omega
  clear si sj
  generalize hx : d[a]! = x at *
  generalize hy : d[pivot]! = y at *
  have HX := hid hx
  have HY := hid hy
  clear hx hy
  go_wp2_with fail
  go_region
  have HM1 := hid ((HM0.out.swap a pivot SIJ.out.1 SIJ.out.2).drew1)
  rw [HX.out, HY.out] at HM1
  clear hy' c1 c2 f1 f2 z1 z2 z3 z4 HX HY
  obtain ⟨d1, hd1⟩ : ∃ d1, d1 = Sort.swp d a pivot := ⟨_, rfl⟩
  rw [← hd1] at HM1
  have HD1 := hid hd1
  clear HSZ
  have HSZ := hid (show d1.size = d.size by rw [hd1, swp_size])
  have HIJ := hid (show a < a1 ∧ a1 ≤ b0 + 1 ∧ b0 ≤ b0 by have := HBD0.out; omega)
  have HBD := hid (show a < d.size ∧ b0 < d.size by have := HBD0.out; omega)
  clear hd1
  go_wp2_with fail
  obtain ⟨R2, hR⟩ : ∃ R, R = Sort.scanUp (fun x => ltN x d1[a]!) d1 b0 a1 := ⟨_, rfl⟩
  have HR2 := hid hR
  clear hR
  go_loopw [10] (fun iv wr => ∃ i : Nat, a1 ≤ i ∧ i ≤ b0 + 1 ∧ iv = .int .i64 i ∧ Sort.scanUp (fun x => ltN x d1[a]!) d1 b0 i = R2 ∧ Made w g off pre tl d1 wr) (fun iv _ => b0 + 1 - (intOf iv).toNat)
  case atStart => exact ⟨a1, Nat.le_refl _, by have := HIJ.out; omega, rfl, HR2.out.symm, HM1.out⟩
  case round =>
    obtain ⟨i, hv1, hv2, rfl, hS, hM⟩ := hrel
    have HV := hid (show a1 ≤ i ∧ i ≤ b0 + 1 from ⟨hv1, hv2⟩)
    have HS := hid hS
    have HMS := hid hM
    clear hv1 hv2 hS hM
    obtain ⟨B, hB⟩ : ∃ B, B = (decide (i ≤ b0) && ltN d1[i]! d1[a]!) := ⟨_, rfl⟩
    have HBB := hid hB
    clear hB
    go_upto_region 3 with (fail)
    go_cut [43] from 30 to 45 (fun bv wx => bv = .bool B ∧ Made w g off pre tl d1 wx)
    case first =>
      by_cases hle : i ≤ b0
      · have y1 := HMS.out.arr.cell i (by have := HV.out; have := HBD.out; have := HSZ.out; omega)
        have y2 := HMS.out.arr.cell a (by have := HBD.out; have := HSZ.out; omega)
        have hlei : (i : Int) ≤ (b0 : Int) := by omega
        have dle : decide (i ≤ b0) = true := by simpa using hle
        have z1 : (i : Int) < (n : Int) := by have := HV.out; have := HBD.out; have := HSN.out; omega
        have z2 : (a : Int) < (n : Int) := by have := HBD.out; have := HSN.out; omega
        have z3 : i < n := by omega
        have z4 : a < n := by omega
        have HE := hid (show B = ltN d1[i]! d1[a]! by rw [HBB.out, dle, Bool.true_and])
        clear HBB hle
        generalize d1[i]! = x at *
        generalize d1[a]! = y at *
        go_quiet ((go_at_call 91; exact Calls.quiet_of_same (less_any _ x y)))
        go_wp2_with fail
        go_meet
        case rel => exact ⟨by rw [HE.out], HMS.out.drew nq⟩
      · have hlei : ¬ (i : Int) ≤ (b0 : Int) := by omega
        have dle : decide (i ≤ b0) = false := by simpa using hle
        have HE := hid (show B = false by rw [HBB.out, dle, Bool.false_and])
        clear HBB hle
        go_quiet (fail)
        go_wp2_with fail
        go_meet
        case rel => exact ⟨by rw [HE.out], HMS.out.drew nq⟩
    case rest =>
      obtain ⟨rfl, hMC⟩ := hcut
      have HMC := hid hMC
      clear hMC
      cases B with
      | true =>
        have HQ := hid (show i ≤ b0 ∧ (ltN d1[i]! d1[a]!) = true by
          have h := HBB.out.symm
          rw [Bool.and_eq_true, decide_eq_true_eq] at h
          exact h)
        have HS2 := hid (show Sort.scanUp (fun x => ltN x d1[a]!) d1 b0 (i + 1) = R2 by
          rw [← HS.out]
          conv => rhs; rw [Sort.scanUp]
          rw [if_pos (by rw [Bool.and_eq_true, decide_eq_true_eq]; exact HQ.out)])
        clear HBB
        have bi : (i : Int) ≤ 1000000000000 := by have := HQ.out.1; have := HBD.out; have := HSN.out; omega
        go_wp2_with fail
        go_roundw
        case rel => exact ⟨i + 1, by have := HV.out; omega, by have := HQ.out.1; omega, by go_num, HS2.out, HMC.out⟩
        case measure => have := HQ.out.1; simp [intOf]; omega
      | false =>
        have HQ := hid (show ¬ (i ≤ b0 ∧ (ltN d1[i]! d1[a]!) = true) by
          have h := HBB.out.symm
          intro hh
          rw [(Bool.and_eq_true _ _).mpr ⟨decide_eq_true hh.1, hh.2⟩] at h
          exact absurd h (by simp))
        have HFI := hid (show i = R2 by
          rw [← HS.out, Sort.scanUp, if_neg (by rw [Bool.and_eq_true, decide_eq_true_eq]; exact HQ.out)])
        clear HBB
        obtain rfl : i = R2 := HFI.out
        clear HFI
        have HQ2 := HQ
        clear HQ
        have HV2 := hid (show a1 ≤ i ∧ i ≤ b0 + 1 from HV.out)
        have HLO := hid (show i ≤ b0 + 1 ∧ 1 ≤ i by have := HV.out; have := HIJ.out; omega)
        go_wp2_with fail
        obtain ⟨wq2, hwq2⟩ : ∃ wq, wq = wc := ⟨_, rfl⟩
        subst hwq2
        obtain ⟨R3, hR⟩ : ∃ R, R = Sort.scanDown (fun x => !ltN x d1[a]!) d1 i b0 := ⟨_, rfl⟩
        have HR3 := hid hR
        clear hR
        go_loopw [11] (fun iv wr => ∃ j : Nat, j ≤ b0 ∧ i ≤ j + 1 ∧ iv = .int .i64 j ∧ Sort.scanDown (fun x => !ltN x d1[a]!) d1 i j = R3 ∧ Made w g off pre tl d1 wr) (fun iv _ => (intOf iv).toNat)
        case atStart => exact ⟨b0, Nat.le_refl _, by have := HLO.out; omega, rfl, HR3.out.symm, HMC.out⟩
        case round =>
          obtain ⟨j, hv1, hv2, rfl, hS, hM⟩ := hrel
          have HV := hid (show j ≤ b0 ∧ i ≤ j + 1 from ⟨hv1, hv2⟩)
          have HS := hid hS
          have HMS := hid hM
          clear hv1 hv2 hS hM
          obtain ⟨B, hB⟩ : ∃ B, B = (decide (i ≤ j) && !ltN d1[j]! d1[a]!) := ⟨_, rfl⟩
          have HBB := hid hB
          clear hB
          go_upto_region 5 with (fail)
          go_cut [60] from 46 to 62 (fun bv wx => bv = .bool B ∧ Made w g off pre tl d1 wx)
          case first =>
            by_cases hle : i ≤ j
            · have y1 := HMS.out.arr.cell j (by have := HV.out; have := HBD.out; have := HSZ.out; omega)
              have y2 := HMS.out.arr.cell a (by have := HBD.out; have := HSZ.out; omega)
              have hlei : (i : Int) ≤ (j : Int) := by omega
              have dle : decide (i ≤ j) = true := by simpa using hle
              have z1 : (j : Int) < (n : Int) := by have := HV.out; have := HBD.out; have := HSN.out; omega
              have z2 : (a : Int) < (n : Int) := by have := HBD.out; have := HSN.out; omega
              have z3 : j < n := by omega
              have z4 : a < n := by omega
              have HE := hid (show B = !ltN d1[j]! d1[a]! by rw [HBB.out, dle, Bool.true_and])
              clear HBB hle
              generalize d1[j]! = x at *
              generalize d1[a]! = y at *
              go_quiet ((go_at_call 91; exact Calls.quiet_of_same (less_any _ x y)))
              go_wp2_with fail
              go_meet
              case rel => exact ⟨by rw [HE.out], HMS.out.drew nq⟩
            · have hlei : ¬ (i : Int) ≤ (j : Int) := by omega
              have dle : decide (i ≤ j) = false := by simpa using hle
              have HE := hid (show B = false by rw [HBB.out, dle, Bool.false_and])
              clear HBB hle
              go_quiet (fail)
              go_wp2_with fail
              go_meet
              case rel => exact ⟨by rw [HE.out], HMS.out.drew nq⟩
          case rest =>
            obtain ⟨rfl, hMC⟩ := hcut
            have HMC := hid hMC
            clear hMC
            cases B with
            | true =>
              have HQ := hid (show i ≤ j ∧ (!ltN d1[j]! d1[a]!) = true by
                have h := HBB.out.symm
                rw [Bool.and_eq_true, decide_eq_true_eq] at h
                exact h)
              obtain ⟨j0, hj0⟩ : ∃ j0, j = j0 + 1 := ⟨j - 1, by have := HQ.out.1; have := HLO.out; omega⟩
              have ej : (j : Int) - 1 = (j0 : Int) := by omega
              have HJ0 := hid hj0
              have HS2 := hid (show Sort.scanDown (fun x => !ltN x d1[a]!) d1 i j0 = R3 by
                rw [← HS.out, hj0]
                conv => rhs; rw [Sort.scanDown]
                rw [if_pos (by rw [Bool.and_eq_true, decide_eq_true_eq, ← hj0]; exact HQ.out)])
              clear HBB hj0
              have bj : (j0 : Int) ≤ 1000000000000 := by have := HJ0.out; have := HV.out; have := HBD.out; have := HSN.out; omega
              go_wp2_with fail
              go_roundw
              case rel => exact ⟨j0, by have := HV.out; have := HJ0.out; omega, by have := HQ.out.1; have := HJ0.out; omega, rfl, HS2.out, HMC.out⟩
              case measure => have := HJ0.out; simp [intOf]; omega
            | false =>
              have HQ := hid (show ¬ (i ≤ j ∧ (!ltN d1[j]! d1[a]!) = true) by
                have h := HBB.out.symm
                intro hh
                rw [(Bool.and_eq_true _ _).mpr ⟨decide_eq_true hh.1, hh.2⟩] at h
                exact absurd h (by simp))
              have HFI := hid (show j = R3 by
                rw [← HS.out]
                cases j with
                | zero => rfl
                | succ j0 => rw [Sort.scanDown, if_neg (by rw [Bool.and_eq_true, decide_eq_true_eq]; exact HQ.out)])
              clear HBB
              obtain rfl : j = R3 := HFI.out
              clear HFI
              have HV3 := hid (show j ≤ b0 ∧ i ≤ j + 1 from HV.out)
              by_cases hgt : j < i
              · have hgti : (j : Int) < (i : Int) := by omega
                have HRE := hid (show R = (j, true, Sort.swp d1 j a) by rw [HR.out]; exact partition_end HD1.out HAB.out.1 HAB.out.2 HR2.out HR3.out hgt)
                have HJA := hid (show j < d1.size ∧ a < d1.size by have := HV3.out; have := HBD.out; have := HSZ.out; omega)
                clear hgt HQ2 HQ
                have si : j < d1.size := HJA.out.1
                have sj : a < d1.size := HJA.out.2
                have SIJ := hid (show j < d1.size ∧ a < d1.size from ⟨si, sj⟩)
                have c1 := HMC.out.arr.cell j si
                have c2 := HMC.out.arr.cell a sj
                have f1 := HMC.out.arr.frozen (off + j)
                have f2 := HMC.out.arr.frozen (off + a)
                obtain ⟨v', hy'⟩ := cell?_setCell_some (w := wc) (p := ⟨g, off + j, none⟩) (x := .int .u32 ((d1[a]! : Nat) : Int)) (q := ⟨g, off + a, none⟩) c2
                have z1 : (j : Int) < (n : Int) := by have := HSN.out; have := HSZ.out; omega
                have z2 : (a : Int) < (n : Int) := by have := HSN.out; have := HSZ.out; omega
                have z3 : j < n := by omega
                have z4 : a < n := by omega
                clear si sj
                generalize hx : d1[j]! = x at *
                generalize hy : d1[a]! = y at *
                have HX := hid hx
                have HY := hid hy
                clear hx hy
                go_wp2_with fail
                go_region
                have HM5 := hid ((HMC.out.swap j a SIJ.out.1 SIJ.out.2).drew1)
                rw [HX.out, HY.out] at HM5
                clear hy' c1 c2 f1 f2 z1 z2 z3 z4 HX HY
                go_wp2
                go_ret2
                rw [HRE.out]
                exact ⟨rfl, HM5.out⟩
              · have hgti : ¬ (j : Int) < (i : Int) := by omega
                obtain ⟨j1, hj1⟩ : ∃ j1, j1 = j - 1 := ⟨_, rfl⟩
                have ej1 : (j : Int) - 1 = (j1 : Int) := by have := HV3.out; have := HLO.out; omega
                obtain ⟨RL, hRL⟩ : ∃ RL, RL = Sort.partLoop ltN a (i + 1) j1 (Sort.swp d1 i j) := ⟨_, rfl⟩
                have HRL := hid hRL
                have HRP := hid (show R = (RL.1, false, Sort.swp RL.2 RL.1 a) by rw [HR.out, hRL, hj1]; exact partition_go HD1.out HAB.out.1 HAB.out.2 HR2.out HR3.out hgt)
                have HJ1 := hid (show j1 + 1 = j ∧ i < j by
                  have hne : i ≠ j := fun e => by
                    subst e
                    have a1 := HQ2.out
                    have a2 := HQ.out
                    have hv := HV3.out
                    cases hc : ltN d1[i]! d1[a]! <;> simp [hc] at a1 a2 <;> omega
                  have := HV3.out; have := HLO.out; omega)
                clear HQ2 HQ hRL
                have HS4 := hid (show (Sort.swp d1 i j).size = d.size by rw [swp_size, HSZ.out])
                have bi2 : (i : Int) ≤ 1000000000000 := by have := HJ1.out; have := HV3.out; have := HBD.out; have := HSN.out; omega
                have bj2 : (j1 : Int) ≤ 1000000000000 := by have := HJ1.out; have := HV3.out; have := HBD.out; have := HSN.out; omega
                clear hgt hj1
                have si : i < d1.size := by have := HJ1.out; have := HV3.out; have := HBD.out; have := HSZ.out; omega
                have sj : j < d1.size := by have := HV3.out; have := HBD.out; have := HSZ.out; omega
                have SIJ := hid (show i < d1.size ∧ j < d1.size from ⟨si, sj⟩)
                have c1 := HMC.out.arr.cell i si
                have c2 := HMC.out.arr.cell j sj
                have f1 := HMC.out.arr.frozen (off + i)
                have f2 := HMC.out.arr.frozen (off + j)
                obtain ⟨v', hy'⟩ := cell?_setCell_some (w := wc) (p := ⟨g, off + i, none⟩) (x := .int .u32 ((d1[j]! : Nat) : Int)) (q := ⟨g, off + j, none⟩) c2
                have z1 : (i : Int) < (n : Int) := by have := HSN.out; have := HSZ.out; omega
                have z2 : (j : Int) < (n : Int) := by have := HSN.out; have := HSZ.out; omega
                have z3 : i < n := by omega
                have z4 : j < n := by omega
                clear si sj
                generalize hx : d1[i]! = x at *
                generalize hy : d1[j]! = y at *
                have HX := hid hx
                have HY := hid hy
                clear hx hy
                go_wp2_with fail
                go_region
                have HM5 := hid ((HMC.out.swap i j SIJ.out.1 SIJ.out.2).drew1)
                rw [HX.out, HY.out] at HM5
                clear hy' c1 c2 f1 f2 z1 z2 z3 z4 HX HY
                go_wp2_with fail
                have HST := hid (show a < i + 1 ∧ i + 1 ≤ j1 + 1 ∧ j1 < b0 + 1 by have := HIJ.out; have := HV2.out; have := HJ1.out; have := HV3.out; omega)
                go_loopw [10, 11] (fun iv jv wr => ∃ (i j : Nat) (d1 : Array Nat), a < i ∧ i ≤ j + 1 ∧ j < b0 + 1 ∧ iv = .int .i64 i ∧ jv = .int .i64 j ∧ d1.size = d.size ∧ Sort.partLoop ltN a i j d1 = RL ∧ Made w g off pre tl d1 wr) (fun iv jv _ => (intOf jv).toNat + 1 - (intOf iv).toNat)
                case atStart => exact ⟨i + 1, j1, _, HST.out.1, HST.out.2.1, HST.out.2.2, by go_num, rfl, HS4.out, HRL.out.symm, HM5.out⟩
                case round =>
                  clear HM5 HS4 HRL HJ1 HV2 HV3 HLO HR2 HR3 HBD HSZ HIJ HMC bi2 bj2 hgti ej1 HD1
                  obtain ⟨i0, j0, d1, ha0, hij, hjb, rfl, rfl, hsz, hF, hM⟩ := hrel
                  have HSZ := hid hsz
                  have HF := hid hF
                  have HM2 := hid hM
                  have HIJ := hid (show a < i0 ∧ i0 ≤ j0 + 1 ∧ j0 ≤ b0 by omega)
                  have HBD := hid (show a < d.size ∧ j0 < d.size by have := HBD0.out; omega)
                  have w1 : (j0 : Int) ≤ (n : Int) := by have := HBD.out; have := HSN.out; omega
                  have w2 : (i0 : Int) ≤ (n : Int) + 1 := by have := HIJ.out; omega
                  clear ha0 hij hjb hsz hF hM
                  obtain ⟨wq4, hwq4⟩ : ∃ wq, wq = wr := ⟨_, rfl⟩
                  subst hwq4
                  go_wp2_with fail
                  obtain ⟨R2, hR⟩ : ∃ R, R = Sort.scanUp (fun x => ltN x d1[a]!) d1 j0 i0 := ⟨_, rfl⟩
                  have HR2 := hid hR
                  clear hR
                  go_loopw [10] (fun iv wr => ∃ i : Nat, i0 ≤ i ∧ i ≤ j0 + 1 ∧ iv = .int .i64 i ∧ Sort.scanUp (fun x => ltN x d1[a]!) d1 j0 i = R2 ∧ Made w g off pre tl d1 wr) (fun iv _ => j0 + 1 - (intOf iv).toNat)
                  case atStart => exact ⟨i0, Nat.le_refl _, by have := HIJ.out; omega, rfl, HR2.out.symm, HM2.out⟩
                  case round =>
                    obtain ⟨i, hv1, hv2, rfl, hS, hM⟩ := hrel
                    have HV := hid (show i0 ≤ i ∧ i ≤ j0 + 1 from ⟨hv1, hv2⟩)
                    have HS := hid hS
                    have HMS := hid hM
                    clear hv1 hv2 hS hM
                    obtain ⟨B, hB⟩ : ∃ B, B = (decide (i ≤ j0) && ltN d1[i]! d1[a]!) := ⟨_, rfl⟩
                    have HBB := hid hB
                    clear hB
                    go_upto_region 13 with (fail)
                    go_cut [112] from 99 to 114 (fun bv wx => bv = .bool B ∧ Made w g off pre tl d1 wx)
                    case first =>
                      by_cases hle : i ≤ j0
                      · have y1 := HMS.out.arr.cell i (by have := HV.out; have := HBD.out; have := HSZ.out; omega)
                        have y2 := HMS.out.arr.cell a (by have := HBD.out; have := HSZ.out; omega)
                        have hlei : (i : Int) ≤ (j0 : Int) := by omega
                        have dle : decide (i ≤ j0) = true := by simpa using hle
                        have z1 : (i : Int) < (n : Int) := by have := HV.out; have := HBD.out; have := HSN.out; omega
                        have z2 : (a : Int) < (n : Int) := by have := HBD.out; have := HSN.out; omega
                        have z3 : i < n := by omega
                        have z4 : a < n := by omega
                        have HE := hid (show B = ltN d1[i]! d1[a]! by rw [HBB.out, dle, Bool.true_and])
                        clear HBB hle
                        generalize d1[i]! = x at *
                        generalize d1[a]! = y at *
                        go_quiet ((go_at_call 91; exact Calls.quiet_of_same (less_any _ x y)))
                        go_wp2_with fail
                        go_meet
                        case rel => exact ⟨by rw [HE.out], HMS.out.drew nq⟩
                      · have hlei : ¬ (i : Int) ≤ (j0 : Int) := by omega
                        have dle : decide (i ≤ j0) = false := by simpa using hle
                        have HE := hid (show B = false by rw [HBB.out, dle, Bool.false_and])
                        clear HBB hle
                        go_quiet (fail)
                        go_wp2_with fail
                        go_meet
                        case rel => exact ⟨by rw [HE.out], HMS.out.drew nq⟩
                    case rest =>
                      obtain ⟨rfl, hMC⟩ := hcut
                      have HMC := hid hMC
                      clear hMC
                      cases B with
                      | true =>
                        have HQ := hid (show i ≤ j0 ∧ (ltN d1[i]! d1[a]!) = true by
                          have h := HBB.out.symm
                          rw [Bool.and_eq_true, decide_eq_true_eq] at h
                          exact h)
                        have HS2 := hid (show Sort.scanUp (fun x => ltN x d1[a]!) d1 j0 (i + 1) = R2 by
                          rw [← HS.out]
                          conv => rhs; rw [Sort.scanUp]
                          rw [if_pos (by rw [Bool.and_eq_true, decide_eq_true_eq]; exact HQ.out)])
                        clear HBB
                        have bi : (i : Int) ≤ 1000000000000 := by have := HQ.out.1; have := HBD.out; have := HSN.out; omega
                        go_wp2_with fail
                        go_roundw
                        case rel => exact ⟨i + 1, by have := HV.out; omega, by have := HQ.out.1; omega, by go_num, HS2.out, HMC.out⟩
                        case measure => have := HQ.out.1; simp [intOf]; omega
                      | false =>
                        have HQ := hid (show ¬ (i ≤ j0 ∧ (ltN d1[i]! d1[a]!) = true) by
                          have h := HBB.out.symm
                          intro hh
                          rw [(Bool.and_eq_true _ _).mpr ⟨decide_eq_true hh.1, hh.2⟩] at h
                          exact absurd h (by simp))
                        have HFI := hid (show i = R2 by
                          rw [← HS.out, Sort.scanUp, if_neg (by rw [Bool.and_eq_true, decide_eq_true_eq]; exact HQ.out)])
                        clear HBB
                        obtain rfl : i = R2 := HFI.out
                        clear HFI
                        have HQ2 := HQ
                        clear HQ
                        have HV2 := hid (show i0 ≤ i ∧ i ≤ j0 + 1 from HV.out)
                        have HLO := hid (show i ≤ j0 + 1 ∧ 1 ≤ i by have := HV.out; have := HIJ.out; omega)
                        go_wp2_with fail
                        obtain ⟨wq2, hwq2⟩ : ∃ wq, wq = wc := ⟨_, rfl⟩
                        subst hwq2
                        obtain ⟨R3, hR⟩ : ∃ R, R = Sort.scanDown (fun x => !ltN x d1[a]!) d1 i j0 := ⟨_, rfl⟩
                        have HR3 := hid hR
                        clear hR
                        go_loopw [11] (fun iv wr => ∃ j : Nat, j ≤ j0 ∧ i ≤ j + 1 ∧ iv = .int .i64 j ∧ Sort.scanDown (fun x => !ltN x d1[a]!) d1 i j = R3 ∧ Made w g off pre tl d1 wr) (fun iv _ => (intOf iv).toNat)
                        case atStart => exact ⟨j0, Nat.le_refl _, by have := HLO.out; omega, rfl, HR3.out.symm, HMC.out⟩
                        case round =>
                          obtain ⟨j, hv1, hv2, rfl, hS, hM⟩ := hrel
                          have HV := hid (show j ≤ j0 ∧ i ≤ j + 1 from ⟨hv1, hv2⟩)
                          have HS := hid hS
                          have HMS := hid hM
                          clear hv1 hv2 hS hM
                          obtain ⟨B, hB⟩ : ∃ B, B = (decide (i ≤ j) && !ltN d1[j]! d1[a]!) := ⟨_, rfl⟩
                          have HBB := hid hB
                          clear hB
                          go_upto_region 15 with (fail)
                          go_cut [129] from 115 to 131 (fun bv wx => bv = .bool B ∧ Made w g off pre tl d1 wx)
                          case first =>
                            by_cases hle : i ≤ j
                            · have y1 := HMS.out.arr.cell j (by have := HV.out; have := HBD.out; have := HSZ.out; omega)
                              have y2 := HMS.out.arr.cell a (by have := HBD.out; have := HSZ.out; omega)
                              have hlei : (i : Int) ≤ (j : Int) := by omega
                              have dle : decide (i ≤ j) = true := by simpa using hle
                              have z1 : (j : Int) < (n : Int) := by have := HV.out; have := HBD.out; have := HSN.out; omega
                              have z2 : (a : Int) < (n : Int) := by have := HBD.out; have := HSN.out; omega
                              have z3 : j < n := by omega
                              have z4 : a < n := by omega
                              have HE := hid (show B = !ltN d1[j]! d1[a]! by rw [HBB.out, dle, Bool.true_and])
                              clear HBB hle
                              generalize d1[j]! = x at *
                              generalize d1[a]! = y at *
                              go_quiet ((go_at_call 91; exact Calls.quiet_of_same (less_any _ x y)))
                              go_wp2_with fail
                              go_meet
                              case rel => exact ⟨by rw [HE.out], HMS.out.drew nq⟩
                            · have hlei : ¬ (i : Int) ≤ (j : Int) := by omega
                              have dle : decide (i ≤ j) = false := by simpa using hle
                              have HE := hid (show B = false by rw [HBB.out, dle, Bool.false_and])
                              clear HBB hle
                              go_quiet (fail)
                              go_wp2_with fail
                              go_meet
                              case rel => exact ⟨by rw [HE.out], HMS.out.drew nq⟩
                          case rest =>
                            obtain ⟨rfl, hMC⟩ := hcut
                            have HMC := hid hMC
                            clear hMC
                            cases B with
                            | true =>
                              have HQ := hid (show i ≤ j ∧ (!ltN d1[j]! d1[a]!) = true by
                                have h := HBB.out.symm
                                rw [Bool.and_eq_true, decide_eq_true_eq] at h
                                exact h)
                              obtain ⟨j0, hj0⟩ : ∃ j0, j = j0 + 1 := ⟨j - 1, by have := HQ.out.1; have := HLO.out; omega⟩
                              have ej : (j : Int) - 1 = (j0 : Int) := by omega
                              have HJ0 := hid hj0
                              have HS2 := hid (show Sort.scanDown (fun x => !ltN x d1[a]!) d1 i j0 = R3 by
                                rw [← HS.out, hj0]
                                conv => rhs; rw [Sort.scanDown]
                                rw [if_pos (by rw [Bool.and_eq_true, decide_eq_true_eq, ← hj0]; exact HQ.out)])
                              clear HBB hj0
                              have bj : (j0 : Int) ≤ 1000000000000 := by have := HJ0.out; have := HV.out; have := HBD.out; have := HSN.out; omega
                              go_wp2_with fail
                              go_roundw
                              case rel => exact ⟨j0, by have := HV.out; have := HJ0.out; omega, by have := HQ.out.1; have := HJ0.out; omega, rfl, HS2.out, HMC.out⟩
                              case measure => have := HJ0.out; simp [intOf]; omega
                            | false =>
                              have HQ := hid (show ¬ (i ≤ j ∧ (!ltN d1[j]! d1[a]!) = true) by
                                have h := HBB.out.symm
                                intro hh
                                rw [(Bool.and_eq_true _ _).mpr ⟨decide_eq_true hh.1, hh.2⟩] at h
                                exact absurd h (by simp))
                              have HFI := hid (show j = R3 by
                                rw [← HS.out]
                                cases j with
                                | zero => rfl
                                | succ j0 => rw [Sort.scanDown, if_neg (by rw [Bool.and_eq_true, decide_eq_true_eq]; exact HQ.out)])
                              clear HBB
                              obtain rfl : j = R3 := HFI.out
                              clear HFI
                              have HV3 := hid (show j ≤ j0 ∧ i ≤ j + 1 from HV.out)
                              by_cases hgt : j < i
                              · have hgti : (j : Int) < (i : Int) := by omega
                                have HRE := hid (show RL = (j, d1) by rw [← HF.out]; exact part_end HR2.out HR3.out hgt)
                                have HJA := hid (show j < d1.size ∧ a < d1.size by have := HV3.out; have := HBD.out; have := HSZ.out; omega)
                                clear hgt HQ2 HQ
                                have si : j < d1.size := HJA.out.1
                                have sj : a < d1.size := HJA.out.2
                                have SIJ := hid (show j < d1.size ∧ a < d1.size from ⟨si, sj⟩)
                                have c1 := HMC.out.arr.cell j si
                                have c2 := HMC.out.arr.cell a sj
                                have f1 := HMC.out.arr.frozen (off + j)
                                have f2 := HMC.out.arr.frozen (off + a)
                                obtain ⟨v', hy'⟩ := cell?_setCell_some (w := wc) (p := ⟨g, off + j, none⟩) (x := .int .u32 ((d1[a]! : Nat) : Int)) (q := ⟨g, off + a, none⟩) c2
                                have z1 : (j : Int) < (n : Int) := by have := HSN.out; have := HSZ.out; omega
                                have z2 : (a : Int) < (n : Int) := by have := HSN.out; have := HSZ.out; omega
                                have z3 : j < n := by omega
                                have z4 : a < n := by omega
                                clear si sj
                                generalize hx : d1[j]! = x at *
                                generalize hy : d1[a]! = y at *
                                have HX := hid hx
                                have HY := hid hy
                                clear hx hy
                                go_wp2_with fail
                                go_region
                                have HM5 := hid ((HMC.out.swap j a SIJ.out.1 SIJ.out.2).drew1)
                                rw [HX.out, HY.out] at HM5
                                clear hy' c1 c2 f1 f2 z1 z2 z3 z4 HX HY
                                go_wp2
                                go_ret2
                                rw [HRP.out, HRE.out]
                                exact ⟨rfl, HM5.out⟩
                              · have hgti : ¬ (j : Int) < (i : Int) := by omega
                                obtain ⟨j1, hj1⟩ : ∃ j1, j1 = j - 1 := ⟨_, rfl⟩
                                have ej1 : (j : Int) - 1 = (j1 : Int) := by have := HV3.out; have := HLO.out; omega
                                have HRE := hid (show Sort.partLoop ltN a (i + 1) j1 (Sort.swp d1 i j) = RL by rw [← HF.out, hj1]; exact (part_go HR2.out HR3.out hgt).symm)
                                have HJ1 := hid (show j1 + 1 = j ∧ i < j by
                                  have hne : i ≠ j := fun e => by
                                    subst e
                                    have a1 := HQ2.out
                                    have a2 := HQ.out
                                    have hv := HV3.out
                                    cases hc : ltN d1[i]! d1[a]! <;> simp [hc] at a1 a2 <;> omega
                                  have := HV3.out; have := HLO.out; omega)
                                clear HQ2 HQ
                                have HS4 := hid (show (Sort.swp d1 i j).size = d.size by rw [swp_size, HSZ.out])
                                have bi2 : (i : Int) ≤ 1000000000000 := by have := HJ1.out; have := HV3.out; have := HBD.out; have := HSN.out; omega
                                have bj2 : (j1 : Int) ≤ 1000000000000 := by have := HJ1.out; have := HV3.out; have := HBD.out; have := HSN.out; omega
                                clear hgt hj1
                                have si : i < d1.size := by have := HJ1.out; have := HV3.out; have := HBD.out; have := HSZ.out; omega
                                have sj : j < d1.size := by have := HV3.out; have := HBD.out; have := HSZ.out; omega
                                have SIJ := hid (show i < d1.size ∧ j < d1.size from ⟨si, sj⟩)
                                have c1 := HMC.out.arr.cell i si
                                have c2 := HMC.out.arr.cell j sj
                                have f1 := HMC.out.arr.frozen (off + i)
                                have f2 := HMC.out.arr.frozen (off + j)
                                obtain ⟨v', hy'⟩ := cell?_setCell_some (w := wc) (p := ⟨g, off + i, none⟩) (x := .int .u32 ((d1[j]! : Nat) : Int)) (q := ⟨g, off + j, none⟩) c2
                                have z1 : (i : Int) < (n : Int) := by have := HSN.out; have := HSZ.out; omega
                                have z2 : (j : Int) < (n : Int) := by have := HSN.out; have := HSZ.out; omega
                                have z3 : i < n := by omega
                                have z4 : j < n := by omega
                                clear si sj
                                generalize hx : d1[i]! = x at *
                                generalize hy : d1[j]! = y at *
                                have HX := hid hx
                                have HY := hid hy
                                clear hx hy
                                go_wp2_with fail
                                go_region
                                have HM5 := hid ((HMC.out.swap i j SIJ.out.1 SIJ.out.2).drew1)
                                rw [HX.out, HY.out] at HM5
                                clear hy' c1 c2 f1 f2 z1 z2 z3 z4 HX HY
                                go_wp2
                                go_roundw
                                case rel => exact ⟨i + 1, j1, _, by have := HIJ.out; have := HV2.out; omega, by have := HJ1.out; omega, by have := HJ1.out; have := HV3.out; have := HIJ.out; omega, by go_num, rfl, HS4.out, HRE.out, HM5.out⟩
                                case measure => have := HJ1.out; have := HV3.out; have := HV2.out; have := HIJ.out; simp [intOf]; omega

end Go.Proofs.Ytdongghjchnpbaa
