/-
  slices.Sort at []uint32: siftDownOrdered, heapSortOrdered.
-/
import Derived.Test.YtdongghjchnpbaaSrtD
namespace Go.Proofs.Ytdongghjchnpbaa
open Go.RowKit
set_option linter.unusedVariables false

theorem sift_end {hi first root : Nat} {d : Array Nat} (h : hi ≤ 2 * root + 1) : Sort.siftDown ltN hi first root d = d := by
  rw [Sort.siftDown, dif_pos (by omega)]
theorem sift_right {hi first root : Nat} {d : Array Nat} (h : 2 * root + 2 < hi) (hl : ltN d[first + (2 * root + 1)]! d[first + (2 * root + 1) + 1]! = true) :
    Sort.siftDown ltN hi first root d = if !ltN d[first + root]! d[first + (2 * root + 2)]! then d else Sort.siftDown ltN hi first (2 * root + 2) (Sort.swp d (first + root) (first + (2 * root + 2))) := by
  rw [Sort.siftDown, dif_neg (by omega), if_pos (by rw [hl, Bool.and_true, decide_eq_true_eq]; omega)]
  split
  · rfl
  · first | rfl | rw [dif_pos h]
theorem sift_left {hi first root : Nat} {d : Array Nat} (h : 2 * root + 1 < hi) (hl : 2 * root + 2 < hi → ltN d[first + (2 * root + 1)]! d[first + (2 * root + 1) + 1]! = false) :
    Sort.siftDown ltN hi first root d = if !ltN d[first + root]! d[first + (2 * root + 1)]! then d else Sort.siftDown ltN hi first (2 * root + 1) (Sort.swp d (first + root) (first + (2 * root + 1))) := by
  rw [Sort.siftDown, dif_neg (by omega), if_neg (by
    intro hh
    rw [Bool.and_eq_true, decide_eq_true_eq] at hh
    rw [hl (by omega)] at hh
    exact absurd hh.2 (by simp))]

set_option maxHeartbeats 8000000 in
theorem sift_any (w : World) (g off n cap : Nat) (pre tl : List Value) (d : Array Nat) (lo hi first : Nat) (h : ArrAt w g off pre tl d) (hn : d.size ≤ n) (hfh : first + hi ≤ d.size) (hlo : lo ≤ 1000000000000) (hm : n ≤ 1000000000000) :
    Calls Try.prog 99 #[.slice (some ⟨g, off, none⟩) n cap, .int .i64 lo, .int .i64 hi, .int .i64 first] w fun e w' => (∃ u, e = .returned u) ∧ Made w g off pre tl (Sort.siftDown ltN hi first lo d) w' := by
  have HH := hid h
  obtain ⟨F, hF⟩ : ∃ F, F = Sort.siftDown ltN hi first lo d := ⟨_, rfl⟩
  rw [← hF]
  have HF := hid hF
  have HFH := hid hfh
  have HLO := hid hlo
  have b1 : (n : Int) ≤ 1000000000000 := by omega
  have b2 : (hi : Int) ≤ (n : Int) := by omega
  have b3 : (first : Int) ≤ (n : Int) := by omega
  clear h hF hlo hfh
  go_enter Try.func99, Try.ntmps99
  go_wp2
  go_loopw [8] (fun iv wr => ∃ (root : Nat) (d1 : Array Nat), root ≤ 1000000000000 ∧ iv = .int .i64 root ∧ d1.size = d.size ∧ Sort.siftDown ltN hi first root d1 = F ∧ Made w g off pre tl d1 wr) (fun iv _ => hi - (intOf iv).toNat)
  case atStart => exact ⟨lo, d, HLO.out, rfl, rfl, HF.out.symm, Made.refl HH.out⟩
  case round =>
    obtain ⟨root, d1, hro, rfl, hsz, hF, hM⟩ := hrel
    obtain ⟨c, hc⟩ : ∃ c, c = 2 * root + 1 := ⟨_, rfl⟩
    obtain ⟨c1, hc1⟩ : ∃ c1, c1 = c + 1 := ⟨_, rfl⟩
    obtain ⟨fc, hfc⟩ : ∃ fc, fc = first + c := ⟨_, rfl⟩
    obtain ⟨fc1, hfc1⟩ : ∃ fc1, fc1 = fc + 1 := ⟨_, rfl⟩
    obtain ⟨fr, hfr⟩ : ∃ fr, fr = first + root := ⟨_, rfl⟩
    have e1 : 2 * (root : Int) + 1 = (c : Int) := by omega
    have e2 : (c : Int) + 1 = (c1 : Int) := by omega
    have e3 : (first : Int) + (c : Int) = (fc : Int) := by omega
    have e4 : (fc : Int) + 1 = (fc1 : Int) := by omega
    have e5 : (first : Int) + (c1 : Int) = (fc1 : Int) := by omega
    have e6 : (first : Int) + (root : Int) = (fr : Int) := by omega
    have b4 : (root : Int) ≤ 1000000000000 := by omega
    have b5 : (c : Int) ≤ 3000000000000 := by omega
    have HSZ := hid hsz
    have HFF := hid hF
    have HM := hid hM
    have HFR := hid hfr
    have HFC := hid (show fc = first + (2 * root + 1) by omega)
    have HFC1 := hid (show fc1 = first + (2 * root + 2) by omega)
    have HFC1' := hid (show fc1 = first + (2 * root + 1) + 1 by omega)
    have HC := hid (show c = 2 * root + 1 ∧ c1 = 2 * root + 2 by omega)
    have HRO := hid hro
    by_cases hend : hi ≤ c
    · have HFE := hid (show d1 = F by rw [← hF, sift_end (by omega)])
      have hei : (hi : Int) ≤ (c : Int) := by omega
      clear hc hc1 hfc hfc1 hfr hsz hF hM hro hend
      go_wp2
      go_end0
      exact ⟨⟨_, rfl⟩, by rw [← HFE.out]; exact HM.out⟩
    · have hei : ¬ (hi : Int) ≤ (c : Int) := by omega
      have hei2 : (c : Int) < (hi : Int) := by omega
      have dei : decide (hi ≤ c) = false := by simpa using hend
      by_cases htwo : c1 < hi
      · have hti : (c1 : Int) < (hi : Int) := by omega
        have dti : decide (c1 < hi) = true := by simpa using htwo
        have y1 := hM.arr.cell fc (by have := HFH.out; omega)
        have y2 := hM.arr.cell fc1 (by have := HFH.out; omega)
        have q1 : (fc : Int) < (n : Int) := by have := HFH.out; omega
        have q2 : (fc1 : Int) < (n : Int) := by have := HFH.out; omega
        have q3 : fc < n := by omega
        have q4 : fc1 < n := by omega
        have q5 : (fr : Int) < (n : Int) := by omega
        have q6 : fr < n := by omega
        have HQ := hid (show fc < d1.size ∧ fc1 < d1.size ∧ fr < d1.size by have := HFH.out; omega)
        have HEN := hid hend
        have HTW := hid htwo
        generalize hx : d1[fc]! = x1 at *
        generalize hy : d1[fc1]! = x2 at *
        have HX1 := hid hx
        have HX2 := hid hy
        clear hc hc1 hfc hfc1 hfr hsz hF hM hro hend htwo hx hy
        go_wp2_with fail
        go_quiet ((go_at_call 91; exact Calls.quiet_of_same (less_any _ x1 x2)))
        have HMS := hid (HM.out.drew nq)
        clear y1 y2
        generalize wr.drewN nq = ws at *
        cases hl : ltN x1 x2 with
        | true =>
          have HSD := hid (show Sort.siftDown ltN hi first root d1 = _ from sift_right (by have := HTW.out; have := HC.out; omega) (by rw [← HFC1'.out, ← HFC.out, HX1.out, HX2.out]; exact hl))
          have hSB : Sort.siftDown ltN hi first (2 * root + 2) = Sort.siftDown ltN hi first c1 := by rw [HC.out.2]
          rw [hSB] at HSD
          clear hl hSB
          have hr1 : fr < d1.size := by have := HQ.out; omega
          have hc1 : fc1 < d1.size := by have := HQ.out; omega
          have k1 := HMS.out.arr.cell fr hr1
          have k2 := HMS.out.arr.cell fc1 hc1
          have g1 := HMS.out.arr.frozen (off + fr)
          have g2 := HMS.out.arr.frozen (off + fc1)
          generalize hx : d1[fr]! = x at *
          generalize hy : d1[fc1]! = y at *
          have HX := hid hx
          have HY := hid hy
          clear hx hy
          go_wp2_with fail
          go_quiet ((go_at_call 91; exact Calls.quiet_of_same (less_any _ x y)))
          have HMT := hid (HMS.out.drew nq)
          clear k1 k2 g1 g2
          generalize ws.drewN nq = wt at *
          have k1 := HMT.out.arr.cell fr hr1
          have k2 := HMT.out.arr.cell fc1 hc1
          have g1 := HMT.out.arr.frozen (off + fr)
          have g2 := HMT.out.arr.frozen (off + fc1)
          rw [HX.out] at k1
          rw [HY.out] at k2
          cases hl2 : ltN x y with
          | false =>
            have HFE := hid (show d1 = F by rw [← HFF.out, HSD.out, ← HFR.out, ← HFC1.out, HX.out, HY.out, hl2]; rfl)
            clear hl2
            go_wp2
            refine bodyPost_ret (results_none rfl _ _ _) rfl ?_
            exact ⟨⟨_, rfl⟩, by rw [← HFE.out]; exact HMT.out⟩
          | true =>
            have HFE := hid (show Sort.siftDown ltN hi first c1 (Sort.swp d1 fr fc1) = F by rw [← HFF.out, HSD.out, ← HFR.out, ← HFC1.out, HX.out, HY.out, hl2]; rfl)
            have HS4 := hid (show (Sort.swp d1 fr fc1).size = d.size by rw [swp_size, HSZ.out])
            have HNE := hid (show fr ≠ fc1 by have := HFR.out; have := HFC1.out; have := HC.out; omega)
            clear hl2
            go_wp2_with fail
            go_region
            have HM4 := hid ((HMT.out.swap fr fc1 hr1 hc1).drew1)
            rw [HX.out, HY.out] at HM4
            go_wp2
            go_roundw
            case rel => exact ⟨c1, Sort.swp d1 fr fc1, by have := HC.out; omega, rfl, HS4.out, HFE.out, HM4.out⟩
            case measure => have := HC.out; simp [intOf]; omega
        | false =>
          have HSD := hid (show Sort.siftDown ltN hi first root d1 = _ from sift_left (by have := HTW.out; have := HC.out; omega) (fun _ => by rw [← HFC1'.out, ← HFC.out, HX1.out, HX2.out]; exact hl))
          have hSB : Sort.siftDown ltN hi first (2 * root + 1) = Sort.siftDown ltN hi first c := by rw [HC.out.1]
          rw [hSB] at HSD
          clear hl hSB
          have hr1 : fr < d1.size := by have := HQ.out; omega
          have hc1 : fc < d1.size := by have := HQ.out; omega
          have k1 := HMS.out.arr.cell fr hr1
          have k2 := HMS.out.arr.cell fc hc1
          have g1 := HMS.out.arr.frozen (off + fr)
          have g2 := HMS.out.arr.frozen (off + fc)
          generalize hx : d1[fr]! = x at *
          generalize hy : d1[fc]! = y at *
          have HX := hid hx
          have HY := hid hy
          clear hx hy
          go_wp2_with fail
          go_quiet ((go_at_call 91; exact Calls.quiet_of_same (less_any _ x y)))
          have HMT := hid (HMS.out.drew nq)
          clear k1 k2 g1 g2
          generalize ws.drewN nq = wt at *
          have k1 := HMT.out.arr.cell fr hr1
          have k2 := HMT.out.arr.cell fc hc1
          have g1 := HMT.out.arr.frozen (off + fr)
          have g2 := HMT.out.arr.frozen (off + fc)
          rw [HX.out] at k1
          rw [HY.out] at k2
          cases hl2 : ltN x y with
          | false =>
            have HFE := hid (show d1 = F by rw [← HFF.out, HSD.out, ← HFR.out, ← HFC.out, HX.out, HY.out, hl2]; rfl)
            clear hl2
            go_wp2
            refine bodyPost_ret (results_none rfl _ _ _) rfl ?_
            exact ⟨⟨_, rfl⟩, by rw [← HFE.out]; exact HMT.out⟩
          | true =>
            have HFE := hid (show Sort.siftDown ltN hi first c (Sort.swp d1 fr fc) = F by rw [← HFF.out, HSD.out, ← HFR.out, ← HFC.out, HX.out, HY.out, hl2]; rfl)
            have HS4 := hid (show (Sort.swp d1 fr fc).size = d.size by rw [swp_size, HSZ.out])
            have HNE := hid (show fr ≠ fc by have := HFR.out; have := HFC.out; have := HC.out; omega)
            clear hl2
            go_wp2_with fail
            go_region
            have HM4 := hid ((HMT.out.swap fr fc hr1 hc1).drew1)
            rw [HX.out, HY.out] at HM4
            go_wp2
            go_roundw
            case rel => exact ⟨c, Sort.swp d1 fr fc, by have := HC.out; omega, rfl, HS4.out, HFE.out, HM4.out⟩
            case measure => have := HC.out; simp [intOf]; omega
      · have hti : ¬ (c1 : Int) < (hi : Int) := by omega
        have dti : decide (c1 < hi) = false := by simpa using htwo
        have q1 : (fc : Int) < (n : Int) := by have := HFH.out; omega
        have q3 : fc < n := by omega
        have q5 : (fr : Int) < (n : Int) := by omega
        have q6 : fr < n := by omega
        have HSD := hid (show Sort.siftDown ltN hi first root d1 = _ from sift_left (by omega) (fun hh => by omega))
        have hSB : Sort.siftDown ltN hi first (2 * root + 1) = Sort.siftDown ltN hi first c := by rw [HC.out.1]
        rw [hSB] at HSD
        have HQ := hid (show fc < d1.size ∧ fr < d1.size by have := HFH.out; omega)
        have HEN := hid hend
        clear hc hc1 hfc hfc1 hfr hsz hF hM hro hend htwo hSB
        go_wp2_with fail
        go_quiet (fail)
        have HMS := hid (HM.out.drew nq)
        generalize wr.drewN nq = ws at *
        have hr1 : fr < d1.size := by have := HQ.out; omega
        have hc1 : fc < d1.size := by have := HQ.out; omega
        have k1 := HMS.out.arr.cell fr hr1
        have k2 := HMS.out.arr.cell fc hc1
        have g1 := HMS.out.arr.frozen (off + fr)
        have g2 := HMS.out.arr.frozen (off + fc)
        generalize hx : d1[fr]! = x at *
        generalize hy : d1[fc]! = y at *
        have HX := hid hx
        have HY := hid hy
        clear hx hy
        go_wp2_with fail
        go_quiet ((go_at_call 91; exact Calls.quiet_of_same (less_any _ x y)))
        have HMT := hid (HMS.out.drew nq)
        clear k1 k2 g1 g2
        generalize ws.drewN nq = wt at *
        have k1 := HMT.out.arr.cell fr hr1
        have k2 := HMT.out.arr.cell fc hc1
        have g1 := HMT.out.arr.frozen (off + fr)
        have g2 := HMT.out.arr.frozen (off + fc)
        rw [HX.out] at k1
        rw [HY.out] at k2
        cases hl2 : ltN x y with
        | false =>
          have HFE := hid (show d1 = F by rw [← HFF.out, HSD.out, ← HFR.out, ← HFC.out, HX.out, HY.out, hl2]; rfl)
          clear hl2
          go_wp2
          refine bodyPost_ret (results_none rfl _ _ _) rfl ?_
          exact ⟨⟨_, rfl⟩, by rw [← HFE.out]; exact HMT.out⟩
        | true =>
          have HFE := hid (show Sort.siftDown ltN hi first c (Sort.swp d1 fr fc) = F by rw [← HFF.out, HSD.out, ← HFR.out, ← HFC.out, HX.out, HY.out, hl2]; rfl)
          have HS4 := hid (show (Sort.swp d1 fr fc).size = d.size by rw [swp_size, HSZ.out])
          have HNE := hid (show fr ≠ fc by have := HFR.out; have := HFC.out; have := HC.out; omega)
          clear hl2
          go_wp2_with fail
          go_region
          have HM4 := hid ((HMT.out.swap fr fc hr1 hc1).drew1)
          rw [HX.out, HY.out] at HM4
          go_wp2
          go_roundw
          case rel => exact ⟨c, Sort.swp d1 fr fc, by have := HC.out; omega, rfl, HS4.out, HFE.out, HM4.out⟩
          case measure => have := HC.out; simp [intOf]; omega

theorem heapBuild_succ (hi first k : Nat) (d : Array Nat) : Sort.heapBuild ltN hi first (k + 1) d = Sort.heapBuild ltN hi first k (Sort.siftDown ltN hi first k d) := rfl
theorem heapPop_succ (first k : Nat) (d : Array Nat) : Sort.heapPop ltN first (k + 1) d = Sort.heapPop ltN first k (Sort.siftDown ltN k first 0 (Sort.swp d first (first + k))) := rfl
theorem sift_size' (hi first : Nat) : ∀ (n root : Nat) (d : Array Nat), hi - root ≤ n → (Sort.siftDown ltN hi first root d).size = d.size
  | n, root, d, h => by
    by_cases h1 : hi ≤ 2 * root + 1
    · rw [sift_end h1]
    · cases n with
      | zero => omega
      | succ n =>
        by_cases h2 : 2 * root + 2 < hi ∧ ltN d[first + (2 * root + 1)]! d[first + (2 * root + 1) + 1]! = true
        · rw [sift_right h2.1 h2.2]
          split
          · rfl
          · rw [sift_size' hi first n _ _ (by omega), swp_size]
        · rw [sift_left (by omega) (fun hh => by
            cases hl : ltN d[first + (2 * root + 1)]! d[first + (2 * root + 1) + 1]!
            · rfl
            · exact absurd ⟨hh, hl⟩ h2)]
          split
          · rfl
          · rw [sift_size' hi first n _ _ (by omega), swp_size]
theorem sift_size (hi first root : Nat) (d : Array Nat) : (Sort.siftDown ltN hi first root d).size = d.size := sift_size' hi first _ root d (Nat.le_refl _)

set_option maxHeartbeats 8000000 in
theorem heap_any (w : World) (g off n cap : Nat) (pre tl : List Value) (d : Array Nat) (a b : Nat) (h : ArrAt w g off pre tl d) (hn : d.size ≤ n) (hab : a < b) (hb : b ≤ d.size) (hm : n ≤ 1000000000000) :
    Calls Try.prog 86 #[.slice (some ⟨g, off, none⟩) n cap, .int .i64 a, .int .i64 b] w fun e w' => (∃ u, e = .returned u) ∧ Made w g off pre tl (Sort.heapSort ltN d a b) w' := by
  have HH := hid h
  obtain ⟨hi, hhi⟩ : ∃ hi, hi = b - a := ⟨_, rfl⟩
  obtain ⟨h1, hh1⟩ : ∃ h1, h1 = hi - 1 := ⟨_, rfl⟩
  obtain ⟨h2, hh2⟩ : ∃ h2, h2 = h1 / 2 := ⟨_, rfl⟩
  obtain ⟨D1, hD1⟩ : ∃ D1, D1 = Sort.heapBuild ltN hi a (h2 + 1) d := ⟨_, rfl⟩
  obtain ⟨F, hF⟩ : ∃ F, F = Sort.heapPop ltN a hi D1 := ⟨_, rfl⟩
  have hFF : Sort.heapSort ltN d a b = F := by
    rw [hF, hD1, hh2, hh1, hhi]; rfl
  rw [hFF]
  have HD1 := hid hD1
  have HF := hid hF
  have e1 : (b : Int) - (a : Int) = (hi : Int) := by omega
  have e2 : (hi : Int) - 1 = (h1 : Int) := by omega
  have e3 : (h1 : Int) / 2 = (h2 : Int) := by omega
  have e4 : (h1 : Int).tdiv 2 = (h2 : Int) := by rw [Int.tdiv_eq_ediv_of_nonneg (by omega)]; exact e3
  have b1 : (n : Int) ≤ 1000000000000 := by omega
  have b2 : (hi : Int) ≤ (n : Int) := by omega
  have b3 : (a : Int) ≤ (n : Int) := by omega
  have b4 : (b : Int) ≤ (n : Int) := by omega
  have HB := hid (show a + hi ≤ d.size ∧ h1 + 1 = hi ∧ h2 ≤ h1 by omega)
  clear h hhi hh1 hh2 hD1 hF hFF hab hb
  go_enter Try.func86, Try.ntmps86
  go_wp2
  go_loopw [9] (fun iv wr => ∃ (k : Nat) (i : Int) (d1 : Array Nat), i = (k : Int) - 1 ∧ k ≤ h2 + 1 ∧ iv = .int .i64 i ∧ d1.size = d.size ∧ Sort.heapBuild ltN hi a k d1 = D1 ∧ Made w g off pre tl d1 wr) (fun iv _ => (intOf iv + 1).toNat)
  case atStart => exact ⟨h2 + 1, h2, d, by omega, Nat.le_refl _, rfl, rfl, HD1.out.symm, Made.refl HH.out⟩
  case round =>
    obtain ⟨k, i, d1, hik, hk, rfl, hsz, hF, hM⟩ := hrel
    have HSZ := hid hsz
    have HFF := hid hF
    have HM := hid hM
    cases k with
    | succ p =>
      obtain rfl : i = (p : Int) := by omega
      have HS2 := hid (show (Sort.siftDown ltN hi a p d1).size = d.size by rw [sift_size, hsz])
      have HK := hid hk
      have hz : (0 : Int) ≤ (p : Int) := by omega
      have q1 : (p : Int) ≤ (n : Int) := by have := HB.out; omega
      clear hik hk hsz hF hM
      go_wp2_with fail
      refine (sift_any wr g off n cap pre tl d1 p hi a HM.out.arr (by have := HSZ.out; omega) (by have := HSZ.out; have := HB.out; omega) (by have := HK.out; have := HB.out; omega) hm).mono ?_
      rintro e w2 ⟨⟨u, rfl⟩, hm2⟩
      have HM2 := hid (HM.out.trans hm2)
      have HF2 := hid (show Sort.heapBuild ltN hi a p (Sort.siftDown ltN hi a p d1) = D1 by rw [← HFF.out, heapBuild_succ])
      clear hm2
      go_wp2
      go_roundw
      case rel => exact ⟨p, (p : Int) - 1, _, rfl, by have := HK.out; omega, rfl, HS2.out, HF2.out, HM2.out⟩
      case measure => simp [intOf]
    | zero =>
      obtain rfl : i = -1 := by omega
      have HDE := hid (show d1 = D1 from hF)
      clear hik hk hsz hF hM
      go_wp2_with fail
      obtain ⟨wq, hwq⟩ : ∃ wq, wq = wr := ⟨_, rfl⟩
      subst hwq
      go_loopw [10] (fun iv wr => ∃ (k : Nat) (i : Int) (d2 : Array Nat), i = (k : Int) - 1 ∧ k ≤ hi ∧ iv = .int .i64 i ∧ d2.size = d.size ∧ Sort.heapPop ltN a k d2 = F ∧ Made w g off pre tl d2 wr) (fun iv _ => (intOf iv + 1).toNat)
      case atStart => exact ⟨hi, h1, d1, by have := HB.out; omega, Nat.le_refl _, rfl, HSZ.out, by rw [HDE.out]; exact HF.out.symm, HM.out⟩
      case round =>
        obtain ⟨k, i, d2, hik, hk, rfl, hsz, hF, hM⟩ := hrel
        have HSZ2 := hid hsz
        have HFF2 := hid hF
        have HM2 := hid hM
        cases k with
        | succ p =>
          obtain rfl : i = (p : Int) := by omega
          obtain ⟨ap, hap⟩ : ∃ ap, ap = a + p := ⟨_, rfl⟩
          have HAP := hid hap
          have HBD := hid (show a < d2.size ∧ ap < d2.size by have := HB.out; omega)
          have c1 := hM.arr.cell a HBD.out.1
          have c2 := hM.arr.cell ap HBD.out.2
          have f1 := hM.arr.frozen (off + a)
          have f2 := hM.arr.frozen (off + ap)
          obtain ⟨v', hy'⟩ := cell?_setCell_some (w := wr) (p := ⟨g, off + a, none⟩) (x := .int .u32 ((d2[ap]! : Nat) : Int)) (q := ⟨g, off + ap, none⟩) (v := .int .u32 ((d2[ap]! : Nat) : Int)) c2
          have e5 : (a : Int) + (p : Int) = (ap : Int) := by omega
          have hz : (0 : Int) ≤ (p : Int) := by omega
          have q1 : (p : Int) ≤ (n : Int) := by have := HB.out; omega
          have q2 : (ap : Int) < (n : Int) := by have := HB.out; omega
          have q3 : ap < n := by omega
          have q4 : (a : Int) < (n : Int) := by have := HB.out; omega
          have q5 : a < n := by omega
          have HK := hid hk
          clear hik hk hsz hF hM hap
          generalize hx : d2[a]! = x at *
          generalize hy : d2[ap]! = y at *
          have HX := hid hx
          have HY := hid hy
          clear hx hy
          go_wp2_with fail
          go_region
          have HM4 := hid ((HM2.out.swap a ap HBD.out.1 HBD.out.2).drew1)
          rw [HX.out, HY.out] at HM4
          clear hy' c1 c2 f1 f2
          have HS2 := hid (show (Sort.siftDown ltN p a 0 (Sort.swp d2 a ap)).size = d.size by rw [sift_size, swp_size, HSZ2.out])
          have HF4 := hid (show Sort.heapPop ltN a p (Sort.siftDown ltN p a 0 (Sort.swp d2 a ap)) = F by rw [← HFF2.out, heapPop_succ, HAP.out])
          generalize ((wr.setCell _ _).setCell _ _).drew = ws at *
          go_wp2_with fail
          refine (sift_any ws g off n cap pre tl (Sort.swp d2 a ap) 0 p a HM4.out.arr (by rw [swp_size]; have := HSZ2.out; omega) (by rw [swp_size]; have := HSZ2.out; have := HB.out; have := HK.out; omega) (by omega) hm).mono ?_
          rintro e w2 ⟨⟨u, rfl⟩, hm2⟩
          have HM5 := hid (HM4.out.trans hm2)
          clear hm2
          go_wp2
          go_roundw
          case rel => exact ⟨p, (p : Int) - 1, _, rfl, by have := HK.out; omega, rfl, HS2.out, HF4.out, HM5.out⟩
          case measure => simp [intOf]
        | zero =>
          obtain rfl : i = -1 := by omega
          have HDE2 := hid (show d2 = F from hF)
          clear hik hk hsz hF hM
          go_wp2
          go_end0
          exact ⟨⟨_, rfl⟩, by rw [← HDE2.out]; exact HM2.out⟩

end Go.Proofs.Ytdongghjchnpbaa
