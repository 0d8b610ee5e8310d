/-
  slices.Sort at []uint32: insertionSortOrdered.
-/
import Derived.Test.YtdongghjchnpbaaSrtA
import Derived.LoopTactic
import Derived.RegionTactic
import Derived.Deep.QuietTactic
import Derived.BigQuiet
import Derived.BigRegion
namespace Go.Proofs.Ytdongghjchnpbaa
open Go.RowKit
set_option linter.unusedVariables false

theorem insOuter_step (a b i : Nat) (d : Array Nat) (h : i < b) : Sort.insOuter ltN a b i d = Sort.insOuter ltN a b (i + 1) (Sort.insInner ltN a i d) := by
  rw [Sort.insOuter, if_pos h]
theorem insOuter_end (a b i : Nat) (d : Array Nat) (h : ¬ i < b) : Sort.insOuter ltN a b i d = d := by
  rw [Sort.insOuter, if_neg h]
theorem insInner_go (a q : Nat) (d : Array Nat) (h : a < q + 1) (hl : ltN d[q + 1]! d[q]! = true) : Sort.insInner ltN a (q + 1) d = Sort.insInner ltN a q (Sort.swp d (q + 1) q) := by
  rw [Sort.insInner, if_pos (by simp only [gt_iff_lt, Bool.and_eq_true, decide_eq_true_eq]; exact ⟨h, hl⟩)]
theorem insInner_stop (a q : Nat) (d : Array Nat) (hl : ltN d[q + 1]! d[q]! = false) : Sort.insInner ltN a (q + 1) d = d := by
  rw [Sort.insInner, if_neg (by simp [hl])]
theorem insInner_low (a j : Nat) (d : Array Nat) (h : j ≤ a) : Sort.insInner ltN a j d = d := by
  cases j with
  | zero => rfl
  | succ q => rw [Sort.insInner, if_neg (by simp; omega)]

set_option maxHeartbeats 4000000 in
theorem insertion_any (w : World) (g off n cap : Nat) (pre tl : List Value) (d : Array Nat) (a b : Nat) (h : ArrAt w g off pre tl d) (hn : d.size ≤ n) (hab : a ≤ b) (hb : b ≤ d.size) (hm : n ≤ 4611686018427387904) :
    Calls Try.prog 85 #[.slice (some ⟨g, off, none⟩) n cap, .int .i64 a, .int .i64 b] w fun e w' => (∃ u, e = .returned u) ∧ Made w g off pre tl (Sort.insertionSort ltN d a b) w' := by
  have HH := hid h
  obtain ⟨F, hF⟩ : ∃ F, F = Sort.insertionSort ltN d a b := ⟨_, rfl⟩
  rw [← hF]
  have HF := hid hF
  clear h hF
  go_enter Try.func85, Try.ntmps85
  go_wp2
  go_loopw [6] (fun i wr => ∃ (k : Nat) (d1 : Array Nat), a + 1 ≤ k ∧ i = .int .i64 k ∧ d1.size = d.size ∧ Sort.insOuter ltN a b k d1 = F ∧ Made w g off pre tl d1 wr) (fun i _ => b - (intOf i).toNat)
  case atStart => exact ⟨a + 1, d, Nat.le_refl _, by go_num, rfl, HF.out.symm, Made.refl HH.out⟩
  case round =>
    obtain ⟨k, d1, hk, rfl, hsz, hF, hM⟩ := hrel
    have HSZ := hid hsz
    have HFF := hid hF
    have HM := hid hM
    clear hsz hF hM
    by_cases hlt : k < b
    · have hki : (k : Int) < (b : Int) := by omega
      have HFI := hid (show Sort.insOuter ltN a b (k + 1) (Sort.insInner ltN a k d1) = F by rw [← insOuter_step _ _ _ _ hlt]; exact HFF.out)
      go_wp2_with fail
      obtain ⟨wq, hwq⟩ : ∃ wq, wq = wr := ⟨_, rfl⟩
      subst hwq
      go_loopw [7] (fun j wr => ∃ (q : Nat) (d2 : Array Nat), q ≤ k ∧ j = .int .i64 q ∧ d2.size = d.size ∧ Sort.insInner ltN a q d2 = Sort.insInner ltN a k d1 ∧ Made w g off pre tl d2 wr) (fun j _ => (intOf j).toNat)
      case atStart => exact ⟨k, d1, Nat.le_refl _, rfl, HSZ.out, rfl, HM.out⟩
      case round =>
        obtain ⟨q, d2, hq, rfl, hsz2, hF2, hM2⟩ := hrel
        have HSZ2 := hid hsz2
        have HF2 := hid hF2
        have HM2 := hid hM2
        by_cases haq : a < q
        · obtain ⟨p, rfl⟩ : ∃ p, q = p + 1 := ⟨q - 1, by omega⟩
          have c1 := hM2.arr.cell (p + 1) (by omega)
          have c2 := hM2.arr.cell p (by omega)
          have f1 := hM2.arr.frozen (off + (p + 1))
          have f2 := hM2.arr.frozen (off + p)
          obtain ⟨q, hqp⟩ : ∃ q, q = p + 1 := ⟨_, rfl⟩
          rw [← hqp] at c1 f1 haq hq ⊢
          have e1 : (q : Int) - 1 = (p : Int) := by omega
          have b1 : (q : Int) < (n : Int) := by omega
          have b2 : (p : Int) < (n : Int) := by omega
          have b3 : q < n := by omega
          have b4 : p < n := by omega
          have d1' : decide (a < q) = true := by simpa using haq
          have HQP := hid hqp
          clear hsz2 hF2 hM2 hqp
          generalize hx : d2[q]! = x at *
          generalize hy : d2[p]! = y at *
          have HX := hid hx
          have HY := hid hy
          clear hx hy
          go_wp2_with fail
          go_quiet ((go_at_call 91; exact Calls.quiet_of_same (less_any _ x y)))
          have HM3 := hid (HM2.out.drew nq)
          generalize wr.drewN nq = ws at *
          clear c1 c2 f1 f2
          have hq2 : q < d2.size := by have := HSZ2.out; omega
          have hp2 : p < d2.size := by have := HSZ2.out; omega
          have c1 := HM3.out.arr.cell q hq2
          have c2 := HM3.out.arr.cell p hp2
          rw [HX.out] at c1
          rw [HY.out] at c2
          have f1 := HM3.out.arr.frozen (off + q)
          have f2 := HM3.out.arr.frozen (off + p)
          cases hl : ltN x y with
          | false =>
            have HF3 := hid (show d2 = Sort.insInner ltN a k d1 by
              rw [← HF2.out]
              exact (insInner_stop a p d2 (by rw [← HQP.out, HX.out, HY.out]; exact hl)).symm)
            clear hl
            go_wp2
            go_roundw
            case rel => exact ⟨k + 1, d2, by omega, by go_num, HSZ2.out, by rw [HF3.out]; exact HFI.out, HM3.out⟩
            case measure => simp [intOf]; omega
          | true =>
            have HL := hid hl
            clear hl
            go_wp2
            go_region
            have HM4 := hid ((HM3.out.swap q p hq2 hp2).drew1)
            rw [HX.out, HY.out] at HM4
            have HF3 := hid (show Sort.insInner ltN a p (Sort.swp d2 q p) = Sort.insInner ltN a k d1 by
              rw [← HF2.out]
              conv => lhs; rw [HQP.out]
              exact (insInner_go a p d2 (by rw [← HQP.out]; exact haq) (by rw [← HQP.out, HX.out, HY.out]; exact HL.out)).symm)
            have HS4 := hid (show (Sort.swp d2 q p).size = d.size by rw [swp_size, HSZ2.out])
            go_wp2
            go_roundw
            case rel => exact ⟨p, Sort.swp d2 q p, by omega, by go_num, HS4.out, HF3.out, HM4.out⟩
            case measure => simp [intOf]; omega
        · have haq2 : q ≤ a := by omega
          have d1' : decide (a < q) = false := by simpa using haq2
          have HF3 := hid (show d2 = Sort.insInner ltN a k d1 by rw [← hF2, insInner_low _ _ _ haq2])
          clear hsz2 hF2 hM2 haq
          go_wp2_with fail
          go_quiet (fail)
          have HM3 := hid (HM2.out.drew nq)
          go_wp2
          go_roundw
          case rel => exact ⟨k + 1, d2, by omega, by go_num, HSZ2.out, by rw [HF3.out]; exact HFI.out, HM3.out⟩
          case measure => simp [intOf]; omega
    · have hki : ¬ (k : Int) < (b : Int) := by omega
      have HFE := hid (show d1 = F by rw [← HFF.out, insOuter_end _ _ _ _ hlt])
      clear hlt
      go_wp2
      go_end0
      exact ⟨⟨_, rfl⟩, by rw [← HFE.out]; exact HM.out⟩

end Go.Proofs.Ytdongghjchnpbaa
