/-
  SlabPlays, in parts: none are asked for
-/
import Derived.Test.YtbchegbamcigkaaRows
import Derived.WalkKit
import Derived.Test.YtbchegbamcigkaaAwake5
import Derived.Test.YtbchegbamcigkaaAppG
import Derived.Test.YtbchegbamcigkaaSame
import Derived.Test.YtbchegbamcigkaaSlabP
import Derived.Test.YtbchegbamcigkaaOps5
import Derived.Test.YtbchegbamcigkaaPlayH
import Derived.ProofKit
import Derived.Deep.Cut
import Derived.Deep.CutRange
import Derived.Deep.CutBlock
import Derived.Below
namespace Go.Proofs.Ytbchegbamcigkaa
open Go.RowKit
set_option linter.unusedVariables false

set_option maxRecDepth 100000 in
set_option maxHeartbeats 16000000 in
theorem plays_low (n : Int) (A2 : Option Addr) (L2 C2 : Nat) (w : World) (hn : n < 1) (w1 : IsOps w A2 L2 C2) :
    Calls Try.prog 3 #[.int .i64 n, .slice A2 L2 C2] w fun e w' => e = .returned (.bool true) ∧ Below w.heap.size w w' := by
  have HOPS := hid w1
  obtain ⟨ob1, ob2⟩ := w1.bounds
  have HN := hid hn
  have h20 : (20 < n) = False := eq_false (by omega)
  clear w1 hn
  go_enter Try.func3, Try.ntmps3
  go_wp2_with fail
  refine (awake5_any w).mono ?_
  rintro e wa ⟨rfl, hba⟩
  have HBA := hid hba
  clear hba
  go_wp2_with fail
  refine (new_no n wa (by have := HN.out; omega)).mono ?_
  rintro e w' ⟨rfl, rfl⟩
  go_wp2_with fail
  refine (refnew_no n wa (by have := HN.out; omega)).mono ?_
  rintro e w' ⟨rfl, rfl⟩
  go_wp2_with fail
  go_loopw [55] (fun i wr => ∃ k : Nat, k ≤ L2 ∧ k ≤ 60 ∧ i = .int .i64 k ∧ Below w.heap.size w wr) (fun i _ => L2 - (intOf i).toNat)
  case atStart => exact ⟨0, by omega, by omega, rfl, HBA.out⟩
  case round =>
    obtain ⟨k, hk1, hk2, rfl, hB⟩ := hrel
    have HBw := hid hB
    clear hB
    by_cases hlt : k < L2
    · obtain ⟨ob, off, eA, hob, hlist⟩ := HOPS.out.list (by omega) 140
      obtain ⟨os, hos1, hos⟩ := hlist L2 (Nat.le_refl _)
      obtain ⟨o, A, L, C, ho, hc0, hd, hc1, hn0, hn1, hc2, hLC, hC, hlen, hrd⟩ := hos k hlt
      clear hos hos1 hlist ho
      subst eA
      have hcell0 := (HBw.out.cell (p := ⟨ob, off + k * 3, none⟩) hob).trans hc0
      have hcell1 := (HBw.out.cell (p := ⟨ob, off + (k * 3 + 1), none⟩) hob).trans hc1
      have hcell2 := (HBw.out.cell (p := ⟨ob, off + (k * 3 + 2), none⟩) hob).trans hc2
      rw [← Nat.add_assoc] at hcell1 hcell2
      have HRD0 := hid hrd
      have HRD := hid (hrd.below HBw.out)
      obtain ⟨M, hM⟩ : ∃ M, M = min L 140 := ⟨_, rfl⟩
      rw [← hM] at HRD HRD0 hlen
      have m140 : (if (140 : Int) < (L : Int) then (140 : Int) else (L : Int)) = (M : Int) := by subst hM; split <;> omega
      have jM : (M : Int) ≤ (C : Int) := by omega
      have hM1 : M ≤ C := by omega
      have hM2 : M ≤ 140 := by omega
      have HLEN := hid hlen
      clear hc0 hc1 hc2 hrd hlen hM
      by_cases h60 : k < 60
      · have h60i : (k : Int) < 60 := by omega
        have hA0 : (wr.alloc (.cells #[.int .u8 (o.d : Int), .int .i64 o.n, .slice A L C] 33)).cell? ⟨wr.heap.size, 0, none⟩ = some (.int .u8 (o.d : Int)) := (cell_of_row _ _ _ _ _ _ (heap_alloc_new wr _)).trans rfl
        have hA2 : (wr.alloc (.cells #[.int .u8 (o.d : Int), .int .i64 o.n, .slice A L C] 33)).cell? ⟨wr.heap.size, 2, none⟩ = some (.slice A L C) := (cell_of_row _ _ _ _ _ _ (heap_alloc_new wr _)).trans rfl
        go_upto_region 14 with fail
        obtain ⟨wo, hwo⟩ : ∃ wo, wo = wr.alloc (.cells #[.int .u8 (o.d : Int), .int .i64 o.n, .slice A L C] 33) := ⟨_, rfl⟩
        have HOB := hid (show wo.heap[wr.heap.size]? = some (.cells #[.int .u8 (o.d : Int), .int .i64 o.n, .slice A L C] 33 (0, 0)) by rw [hwo]; exact heap_alloc_new wr _)
        have hbo : Below wr.heap.size wr wo := by rw [hwo]; exact (Below.refl _ _).alloc (Nat.le_refl _) _
        have HBO := hid hbo
        have hso2 : wr.heap.size < wo.heap.size := by rw [hwo]; simp
        rw [← hwo]
        have HE := hid (Own.empty wo wo.heap.size (Nat.le_refl _))
        have HPe := hid ((HRD.out.below hbo).alloc (.cells #[] 5))
        obtain ⟨dd, hdd⟩ : ∃ dd, dd = o.d := ⟨_, rfl⟩
        have HDD := hid hdd
        clear hwo hbo hA0 hA2 hdd hcell0 hcell1 hcell2
        go_upto_block 2 with (first | (at_builtin; (refine appw (by rfl) (.tmp 69) (.tmp 70) rfl wo.heap.size (.slice (some ⟨wo.heap.size, 0, none⟩) 0 0) _ [] o.t o.t M rfl rfl HE.out HPe.out (by have := HLEN.out; simp; omega) rfl (by have := HLEN.out; simp; omega) (by simp) ?_); intro ad2 cp2 w2 ho2 hg2; have Q2 := hid ho2; have HN2 := hid (((Below.refl wo.heap.size wo).alloc (Nat.le_refl _) (.cells #[] 5)).grown hg2 (by simp) (fun k hk => by have : wo.heap.size = k := Option.some.inj hk; omega)); have hs2 := HN2.out.size; have HOB2 := hid ((HN2.out.block wr.heap.size hso2).trans HOB.out); have e0 : w2.cell? ⟨wr.heap.size, 0, none⟩ = some (.int .u8 (dd : Int)) := (cell_of_row _ _ _ _ _ _ HOB2.out).trans (by rw [HDD.out]; rfl); have e1 : w2.cell? ⟨wr.heap.size, 1, none⟩ = some (.int .i64 o.n) := (cell_of_row _ _ _ _ _ _ HOB2.out).trans rfl; have HP2 := hid ((HRD.out.below HBO.out).below HN2.out); clear ho2 hg2; skip) | fail)
        go_cut [13, 14, 15, 16, 17, 18] from 74 to 155 (fun v13 v14 v15 v16 v17 v18 wx => v13 = .bool true ∧ Own wx wo.heap.size (.slice ad2 M cp2) o.t ∧ Below wo.heap.size wo wx)
        case first =>
          have hparts : dd = 0 ∨ dd = 1 ∨ dd = 2 ∨ dd = 3 ∨ dd = 4 ∨ dd = 5 ∨ dd = 6 ∨ 6 < dd := by omega
          rcases hparts with hdq | hdq | hdq | hdq | hdq | hdq | hdq | hdq
          · subst hdq
            go_wp2_with fail
            go_region_held3 (fun w' => w'.cell? ⟨wr.heap.size, 1, none⟩ = some (.int .i64 o.n))
              (first | assumption | fail)
              (first | (go_at_call 17; refine (write_nil o.n (.slice ad2 M cp2) _ ⟨_, _, _, rfl⟩).mono ?_; rintro e w' ⟨rfl, rfl⟩; dsimp only) | (go_at_call 18; refine (refput_nil o.n (.slice A M C) _ ⟨_, _, _, rfl⟩).mono ?_; rintro e w' ⟨rfl, rfl⟩; dsimp only) | fail)
            go_wp2_with fail
            go_meet
            case rel => exact ⟨rfl, (show Own w2.drew _ _ _ from Q2.out), (HN2.out.trans ((Below.refl wo.heap.size w2).drew))⟩
          · subst hdq
            go_wp2_with fail
            go_region_held3 (fun w' => w'.cell? ⟨wr.heap.size, 1, none⟩ = some (.int .i64 o.n))
              (first | assumption | fail)
              (first | (go_at_call 17; refine (write_nil o.n (.slice ad2 M cp2) _ ⟨_, _, _, rfl⟩).mono ?_; rintro e w' ⟨rfl, rfl⟩; dsimp only) | (go_at_call 18; refine (refput_nil o.n (.slice A M C) _ ⟨_, _, _, rfl⟩).mono ?_; rintro e w' ⟨rfl, rfl⟩; dsimp only) | fail)
            go_wp2_with fail
            go_meet
            case rel => exact ⟨rfl, (show Own w2.drew _ _ _ from Q2.out), (HN2.out.trans ((Below.refl wo.heap.size w2).drew))⟩
          · subst hdq
            go_wp2_with fail
            go_region_held3 (fun w' => w'.cell? ⟨wr.heap.size, 1, none⟩ = some (.int .i64 o.n))
              (first | assumption | fail)
              (first | (go_at_call 17; refine (write_nil o.n (.slice ad2 M cp2) _ ⟨_, _, _, rfl⟩).mono ?_; rintro e w' ⟨rfl, rfl⟩; dsimp only) | (go_at_call 18; refine (refput_nil o.n (.slice A M C) _ ⟨_, _, _, rfl⟩).mono ?_; rintro e w' ⟨rfl, rfl⟩; dsimp only) | fail)
            go_wp2_with fail
            go_meet
            case rel => exact ⟨rfl, (show Own w2.drew _ _ _ from Q2.out), (HN2.out.trans ((Below.refl wo.heap.size w2).drew))⟩
          · subst hdq
            go_wp2_with fail
            refine (read_nil o.n w2).mono ?_
            rintro e w' ⟨rfl, rfl⟩
            go_wp2_with fail
            refine (refget_nil o.n w2).mono ?_
            rintro e w' ⟨rfl, rfl⟩
            go_wp2_with fail
            refine (same_any _ _ [] [] w2 (Rd.nil _) (Rd.nil _)).mono ?_
            rintro e w' ⟨rfl, rfl⟩
            go_wp2_with fail
            refine wp_loop_rounds 1 ?_
            rw [rounds_succ]
            go_wp2_with fail
            go_meet
            case rel => exact ⟨rfl, Q2.out, HN2.out⟩
          · subst hdq
            go_wp2_with fail
            refine (flush_nil w2).mono ?_
            rintro e w' ⟨rfl, rfl⟩
            go_wp2_with fail
            refine (refflush_nil w2).mono ?_
            rintro e w' ⟨rfl, rfl⟩
            go_wp2_with fail
            go_meet
            case rel => exact ⟨rfl, Q2.out, HN2.out⟩
          · subst hdq
            go_wp2_with fail
            go_region_held3 (fun w' => w'.cell? ⟨wr.heap.size, 1, none⟩ = some (.int .i64 o.n))
              (first | assumption | fail)
              (first | (go_at_call 24; refine (arm_nil o.n _).mono ?_; rintro e w' ⟨rfl, rfl⟩; dsimp only) | (go_at_call 25; refine (refarm_nil o.n _).mono ?_; rintro e w' ⟨rfl, rfl⟩; dsimp only) | fail)
            go_wp2_with fail
            go_meet
            case rel => exact ⟨rfl, (show Own w2.drew _ _ _ from Q2.out), (HN2.out.trans ((Below.refl wo.heap.size w2).drew))⟩
          · subst hdq
            go_wp2_with fail
            go_region_held3 (fun w' => w'.cell? ⟨wr.heap.size, 1, none⟩ = some (.int .i64 o.n))
              (first | assumption | fail)
              (first | (go_at_call 26; refine (crash_nil (.slice ad2 M cp2) o.n _ ⟨_, _, _, rfl⟩).mono ?_; rintro e w' ⟨rfl, rfl⟩; dsimp only) | (go_at_call 27; refine (refcrash_nil (.slice A M C) o.n _ ⟨_, _, _, rfl⟩).mono ?_; rintro e w' ⟨rfl, rfl⟩; dsimp only) | fail)
            go_wp2_with fail
            go_meet
            case rel => exact ⟨rfl, (show Own w2.drew _ _ _ from Q2.out), (HN2.out.trans ((Below.refl wo.heap.size w2).drew))⟩
          · have hz0 : ((dd : Int) == 0) = false := by rw [beq_eq_false_iff_ne]; omega
            have hz1 : ((dd : Int) == 1) = false := by rw [beq_eq_false_iff_ne]; omega
            have hz2 : ((dd : Int) == 2) = false := by rw [beq_eq_false_iff_ne]; omega
            have hz3 : ((dd : Int) == 3) = false := by rw [beq_eq_false_iff_ne]; omega
            have hz4 : ((dd : Int) == 4) = false := by rw [beq_eq_false_iff_ne]; omega
            have hz5 : ((dd : Int) == 5) = false := by rw [beq_eq_false_iff_ne]; omega
            have hz6 : ((dd : Int) == 6) = false := by rw [beq_eq_false_iff_ne]; omega
            go_wp2_with fail
            go_meet
            case rel => exact ⟨rfl, Q2.out, HN2.out⟩
        case rest =>
          obtain ⟨rfl, hoc, hbc⟩ := hcut
          have HQC := hid hoc
          have HBC := hid hbc
          have HPC := hid ((HRD.out.below HBO.out).below hbc)
          clear hoc hbc
          go_wp2_with fail
          refine (same_any _ _ o.t o.t _ HQC.out.rd HPC.out).mono ?_
          rintro e w' ⟨rfl, rfl⟩
          rw [show (o.t == o.t) = true by simp]
          go_wp2_with fail
          go_loopw [166] (fun j' wi => ∃ (m : Nat) (l' : List UInt8), m ≤ M ∧ j' = .int .i64 m ∧ l'.length = M ∧ Own wi wo.heap.size (.slice ad2 M cp2) l' ∧ Below wo.heap.size wo wi) (fun j' _ => M - (intOf j').toNat)
          case atStart => exact ⟨0, o.t, Nat.zero_le _, rfl, HLEN.out, HQC.out, HBC.out⟩
          case round =>
            obtain ⟨m, l', hm, rfl, hl', hown, hbi⟩ := hrel
            have HOI := hid hown
            have HBI := hid hbi
            have HL' := hid hl'
            clear hown hbi hl'
            by_cases hml : m < M
            · obtain ⟨gg, cc, egg⟩ := own_head HOI.out (by have := HL'.out; omega)
              simp only [Value.slice.injEq] at egg
              obtain ⟨eg1, eg2, eg3⟩ := egg
              clear eg2
              subst eg1 eg3
              have i1 := HOI.out.cell m (by have := HL'.out; omega)
              have i2 := HOI.out.frozen m
              obtain ⟨i30, i31, i32⟩ := HOI.out.caps
              obtain ⟨x, hx⟩ : ∃ x, x = l'.getD m 0 := ⟨_, rfl⟩
              rw [← hx] at i1
              unfold bv at i1
              have HST := hid (HOI.out.stored m (x ^^^ 1) _ (xor1 x))
              have hgi := (HOI.out.lt gg rfl).1
              clear hx i30
              go_wp2_with fail
              go_roundw
              case rel => exact ⟨m + 1, _, by omega, by go_num, by rw [List.length_set]; exact HL'.out, HST.out, HBI.out.trans (Below.setCell' _ hgi _ _)⟩
              case measure => simp [intOf]; omega
            · obtain rfl : m = M := by omega
              have HBZ := hid (HBw.out.trans ((HBO.out.trans (HBI.out.mono (Nat.le_of_lt hso2))).mono (HBw.out.size)))
              clear HOI
              go_wp2_with fail
              refine (len_nil _).mono ?_
              rintro e w' ⟨rfl, rfl⟩
              go_wp2_with fail
              refine (on_nil _).mono ?_
              rintro e w' ⟨rfl, rfl⟩
              go_wp2_with fail
              refine (steps_nil _).mono ?_
              rintro e w' ⟨rfl, rfl⟩
              go_wp2_with fail
              refine (way_nil _).mono ?_
              rintro e w' ⟨rfl, rfl⟩
              go_wp2_with fail
              go_roundw
              case rel => exact ⟨k + 1, by omega, by omega, by go_num, HBZ.out⟩
              case measure => simp [intOf]; omega
      · have hge : (60 : Int) ≤ (k : Int) := by omega
        go_wp2
        go_ret
        exact ⟨rfl, HBw.out.alloc HBw.out.size _⟩
    · obtain rfl : k = L2 := by omega
      go_wp2
      go_ret
      exact ⟨rfl, HBw.out⟩

end Go.Proofs.Ytbchegbamcigkaa
