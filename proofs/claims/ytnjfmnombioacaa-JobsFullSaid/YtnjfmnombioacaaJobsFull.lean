/-
  JobsFull: a client submits 64 jobs and no more; behind each one that is done there is room for one more; of those that are over the last 64 are known. No condition.
  (The frame behind the walk is the guide's shell, at these parameters.)
-/
import Derived.Test.YtnjfmnombioacaaRows
import Derived.WalkKit
import Derived.Test.YtnjfmnombioacaaJbN
import Derived.ProofKit
import Derived.Deep.Cut
import Derived.Deep.CutRange
import Derived.Deep.CutBlock
import Derived.Deep.Grids
import Derived.OpenShut
import Derived.ShutString
import Derived.ChangeOld
import Derived.Below
namespace Go.Proofs.Ytnjfmnombioacaa.jobsFull
open Go.ChangeShapes Go.WideShapes Go.ChangeAt Go.RowKit
open Go.ChangeMaps (open_string shut_string)
set_option linter.unusedVariables false

theorem own : ownKnob Try.prog.godebug = none := by kernel_rfl
theorem laidOut : laidOutB Try.prog = true := by kernel_rfl

set_option linter.unusedSimpArgs false
theorem finish_at (w : World) (lo b z : Nat) (va vo : Value) (t : Tb) (h : TbAt w lo b va vo t) (hv : t.over.length ≤ 64) {e : Int} {t' : Tb} (he : t.finish z = (e, t')) :
    Calls Try.prog 12 #[.pointer (some ⟨b, 0, none⟩), .int .u32 (z : Int)] w fun r w' => r = .returned (.int .i64 e) ∧ ∃ va' vo', Stp w lo b va vo w' va' vo' t' := by
  have h1 := finish_any w lo b z va vo t h hv (by have := h.lt; have := h.lob; omega)
  rw [he] at h1
  exact h1
theorem job_at (w : World) (lo b z : Nat) (va vo : Value) (t : Tb) (h : TbAt w lo b va vo t) {x : Jb} {ok : Bool} (he : t.job z = (x, ok)) :
    Calls Try.prog 19 #[.pointer (some ⟨b, 0, none⟩), .int .u32 (z : Int)] w fun e w' => e = .returned (.tuple #[jv x, .bool ok]) ∧ Below w.heap.size w w' := by
  have h1 := job_any w lo b z va vo t h
  rw [he] at h1
  exact h1
set_option maxRecDepth 100000 in
set_option maxHeartbeats 8000000 in
theorem walk (a0 : Int) (w : World) (w0 : (Lit.int .u8 a0).wf = true) :
    Calls Try.prog 5 #[.int .u8 a0] w fun e w' => e = .returned (.bool true) ∧ Below w.heap.size w w' := by
  obtain ⟨nn, hnn⟩ : ∃ k : Nat, a0 = (k : Int) := ⟨a0.toNat, by have := bounds_u8 w0; omega⟩
  subst hnn
  have hnb : nn < 256 := by have := bounds_u8 w0; omega
  clear w0
  obtain ⟨kk, hkk⟩ : ∃ k : Nat, k = nn % 80 := ⟨_, rfl⟩
  have hkm : (nn : Int) % 80 = (kk : Int) := by omega
  have hw1 : IntKind.i64.wrap (nn : Int) = (nn : Int) := by rw [IntKind.wrap_i64]; omega
  have HKK := hid (show kk < 80 by omega)
  have htm : Int.tmod (nn : Int) 80 = (kk : Int) := by rw [Int.tmod_eq_emod_of_nonneg (by omega)]; exact hkm
  have HKM := hid (And.intro hkm (And.intro hw1 htm))
  clear hkk hnb hkm hw1 htm
  go_enter Try.func5, Try.ntmps5
  go_wp2_with fail
  refine (awake16_any w).mono ?_
  rintro e x1 ⟨rfl, hb1⟩
  have HB1 := hid hb1
  clear hb1
  go_wp2_with fail
  refine (jnew_any 4 x1 (by omega) (by omega)).mono ?_
  rintro e x2 ⟨rfl, ht, hb⟩
  obtain ⟨b, hbb⟩ : ∃ b, b = x1.heap.size := ⟨_, rfl⟩
  have HLO := hid (show w.heap.size ≤ b by have := HB1.out.size; omega)
  rw [← hbb] at ht
  simp only [← hbb]
  have HT := hid (show TbAt x2 b b (.slice none 0 0) (.slice none 0 0) (St 0 0 []) from ht)
  have HB := hid (HB1.out.trans (hb.mono HB1.out.size))
  clear ht hb hbb HB1
  go_wp2_with fail
  go_loopw [22] (fun i wr => ∃ (k : Nat) (va vo : Value), i = .int .i64 k ∧ k ≤ 64 ∧ TbAt wr b b va vo (St 0 k []) ∧ Below w.heap.size w wr) (fun i _ => 64 - (intOf i).toNat)
  case atStart => exact ⟨0, _, _, rfl, Nat.zero_le _, HT.out, HB.out⟩
  case round =>
    obtain ⟨k, va, vo, rfl, hk, ht, hb⟩ := hrel
    have HTk := hid ht
    have HBk := hid hb
    clear ht hb
    by_cases hlt : k < 64
    · have hki : decide ((k : Int) < 64) = true := decide_eq_true (by omega)
      have hki' : (k : Int) < 64 := by omega
      obtain ⟨zz, hzz⟩ : ∃ z, z = k + 1 := ⟨_, rfl⟩
      have HZ := hid hzz
      have hzi : (k : Int) + 1 = (zz : Int) := by omega
      have hwz : IntKind.u32.wrap (zz : Int) = (zz : Int) := by rw [IntKind.wrap_u32]; omega
      have HMZ := hid (show 64 - zz < 64 - k by omega)
      have HLZ := hid (show zz ≤ 64 by omega)
      have HPL := hid (st_submit 0 k [] (Nat.zero_le _) (by omega))
      rw [← hzz] at HPL
      clear hzz hlt hk
      have HD := hid (fun (W : World) (h : TbAt W b b va vo (St 0 k [])) => show Calls Try.prog 11 #[.pointer (some ⟨b, 0, none⟩), .agg #[.int .u8 0, .int .u32 (zz : Int), .int .u8 1, .int .u8 1, .int .i64 2, .int .i64 5, .int .u32 0]] W fun e w' => e = .returned (.tuple #[.agg #[.int .u8 0, .int .u32 (zz : Int), .int .i64 0, .int .u32 (zz : Int), .int .u8 0, .int .i64 0], .bool true]) ∧ ∃ va' vo', Stp W b b va vo w' va' vo' (St 0 zz []) from do_at W b b va vo (St 0 k []) (subQ zz) h (Nat.le_of_ble_eq_true rfl) (show k < 100000 by have := HZ.out; have := HLZ.out; omega) (by unfold Note.Q.wf subQ; simp; have := HLZ.out; omega) (show (1 : Nat) ≠ 3 by decide) HPL.out)
      go_wp2_with fail
      refine (lawsubmit_any zz wr).mono ?_
      rintro e s1 ⟨rfl, hb1⟩
      have HB1 := hid (HBk.out.trans (hb1.mono HBk.out.size))
      have HT1 := hid (HTk.out.below hb1)
      clear hb1
      go_wp2_with fail
      refine (HD.out s1 HT1.out).mono ?_
      rintro e s2 ⟨rfl, va2, vo2, hs⟩
      have HB2 := hid (hs.bel HT1.out HB1.out HLO.out HB1.out.size)
      have HT2 := hid hs.tb
      clear hs
      obtain ⟨s3, hs3⟩ : ∃ z, z = s2.alloc (.cells #[.int .u8 0, .int .u32 (zz : Int), .int .i64 0, .int .u32 (zz : Int), .int .u8 0, .int .i64 0] 37) := ⟨_, rfl⟩
      have hb3 : Below s2.heap.size s2 s3 := by rw [hs3]; exact (Below.refl _ _).alloc (Nat.le_refl _) _
      have HB4 := hid (HB2.out.trans (hb3.mono HB2.out.size))
      have HT4 := hid (HT2.out.below hb3)
      have HS3 := hid hs3
      clear hb3 hs3
      go_wp2_with fail
      rw [← HS3.out]
      go_roundw
      case rel => exact ⟨zz, _, _, (by first | rfl | simp), HLZ.out, HT4.out, HB4.out⟩
      case measure => first | exact HMZ.out | (simp [intOf]; exact HMZ.out) | (have := HMZ.out; simp [intOf]; omega)
    · have hk64 : k = 64 := by omega
      subst hk64
      clear hlt hk
      have hki : decide (((64 : Nat) : Int) < 64) = false := by decide
      have HD := hid (fun (W : World) (h : TbAt W b b va vo (St 0 64 [])) => show Calls Try.prog 11 #[.pointer (some ⟨b, 0, none⟩), .agg #[.int .u8 0, .int .u32 65, .int .u8 1, .int .u8 1, .int .i64 2, .int .i64 5, .int .u32 0]] W fun e w' => e = .returned (.tuple #[.agg #[.int .u8 0, .int .u32 65, .int .i64 8, .int .u32 0, .int .u8 0, .int .i64 0], .bool false]) ∧ ∃ va' vo', Stp W b b va vo w' va' vo' (St 0 64 []) from do_at W b b va vo (St 0 64 []) (subQ 65) h (Nat.le_of_ble_eq_true rfl) (Nat.le_of_ble_eq_true rfl) (by unfold Note.Q.wf subQ; simp) (show (1 : Nat) ≠ 3 by decide) st_full)
      go_wp2_with fail
      refine (lawsubmit_any 65 wr).mono ?_
      rintro e s1 ⟨rfl, hb1⟩
      have HB1 := hid (HBk.out.trans (hb1.mono HBk.out.size))
      have HT1 := hid (HTk.out.below hb1)
      clear hb1
      go_wp2_with fail
      refine (HD.out s1 HT1.out).mono ?_
      rintro e s2 ⟨rfl, va2, vo2, hs⟩
      have HB2 := hid (hs.bel HT1.out HB1.out HLO.out HB1.out.size)
      have HT2 := hid hs.tb
      clear hs
      obtain ⟨s3, hs3⟩ : ∃ z, z = s2.alloc (.cells #[.int .u8 0, .int .u32 65, .int .i64 8, .int .u32 0, .int .u8 0, .int .i64 0] 37) := ⟨_, rfl⟩
      have hb3 : Below s2.heap.size s2 s3 := by rw [hs3]; exact (Below.refl _ _).alloc (Nat.le_refl _) _
      have HB4 := hid (HB2.out.trans (hb3.mono HB2.out.size))
      have HT4 := hid (HT2.out.below hb3)
      have HS3 := hid hs3
      clear hb3 hs3
      have HKM1 := HKM.out.1
      have HKM2 := HKM.out.2.1
      have HKM3 := HKM.out.2.2
      go_wp2_with fail
      rw [← HS3.out]
      clear HKM1 HKM2 HKM3
      go_loopw [51] (fun i wr => ∃ (k : Nat) (va vo : Value), i = .int .i64 k ∧ k ≤ kk ∧ TbAt wr b b va vo (St k (64 + k) (ovL k)) ∧ Below w.heap.size w wr) (fun i _ => kk - (intOf i).toNat)
      case atStart => exact ⟨0, _, _, rfl, Nat.zero_le _, HT4.out, HB4.out⟩
      case round =>
        obtain ⟨k, va, vo, rfl, hk, ht, hb⟩ := hrel
        have HTr := hid ht
        have HBr := hid hb
        clear ht hb
        by_cases hlt : k < kk
        · have hki : (k : Int) < (kk : Int) := by omega
          have hkn := HKK.out
          obtain ⟨zz, hzz⟩ : ∃ z, z = k + 1 := ⟨_, rfl⟩
          obtain ⟨yy, hyy⟩ : ∃ z, z = 64 + k + 1 := ⟨_, rfl⟩
          have hzi : (k : Int) + 1 = (zz : Int) := by omega
          have hyi : 65 + (k : Int) = (yy : Int) := by omega
          have hwz : Go.RowKit.wrap64 (zz : Int) = (zz : Int) := by unfold Go.RowKit.wrap64; omega
          have hwy : Go.RowKit.wrap64 (yy : Int) = (yy : Int) := by unfold Go.RowKit.wrap64; omega
          have hmz : (zz : Int) % 4294967296 = (zz : Int) := by omega
          have hmy : (yy : Int) % 4294967296 = (yy : Int) := by omega
          have HYZ := hid (show yy = 64 + zz by omega)
          have HZL := hid (show zz ≤ kk by omega)
          have HYL := hid (show yy < 1000 by omega)
          have HMZ := hid (show kk - zz < kk - k by omega)
          have HFI := hid (st_finish k (64 + k) (by omega))
          rw [← hzz] at HFI
          have HPL := hid (st_submit zz (64 + k) (ovL zz) (by omega) (by omega))
          rw [← hyy] at HPL
          have HKL := hid (show 64 + k < 1000 by omega)
          clear hzz hyy hlt hk hkn
          have HF1 := hid (finish_at wr b b zz va vo _ HTr.out (by show (ovL k).length ≤ 64; rw [ovL_len]; omega) HFI.out)
          go_wp2_with fail
          refine HF1.out.mono ?_
          rintro e r1 ⟨rfl, vb, vp, hs⟩
          have HB1 := hid (hs.bel HTr.out HBr.out HLO.out HBr.out.size)
          have HT1 := hid hs.tb
          clear hs
          have HD := hid (fun (W : World) (h : TbAt W b b vb vp (St zz (64 + k) (ovL zz))) => show Calls Try.prog 11 #[.pointer (some ⟨b, 0, none⟩), .agg #[.int .u8 0, .int .u32 (yy : Int), .int .u8 1, .int .u8 1, .int .i64 2, .int .i64 5, .int .u32 0]] W fun e w' => e = .returned (.tuple #[.agg #[.int .u8 0, .int .u32 (yy : Int), .int .i64 0, .int .u32 (yy : Int), .int .u8 0, .int .i64 0], .bool true]) ∧ ∃ va' vo', Stp W b b vb vp w' va' vo' (St zz yy (ovL zz)) from do_at W b b vb vp (St zz (64 + k) (ovL zz)) (subQ yy) h (by show (ovL zz).length ≤ 64; rw [ovL_len]; omega) (show 64 + k < 100000 by have := HKL.out; omega) (by unfold Note.Q.wf subQ; simp; have := HYL.out; omega) (show (1 : Nat) ≠ 3 by decide) HPL.out)
          go_wp2_with fail
          refine (lawsubmit_any yy r1).mono ?_
          rintro e s1 ⟨rfl, hb1⟩
          have HB1 := hid (HB1.out.trans (hb1.mono HB1.out.size))
          have HT1 := hid (HT1.out.below hb1)
          clear hb1
          go_wp2_with fail
          refine (HD.out s1 HT1.out).mono ?_
          rintro e s2 ⟨rfl, va2, vo2, hs⟩
          have HB2 := hid (hs.bel HT1.out HB1.out HLO.out HB1.out.size)
          have HT2 := hid hs.tb
          clear hs
          obtain ⟨s3, hs3⟩ : ∃ z, z = s2.alloc (.cells #[.int .u8 0, .int .u32 (yy : Int), .int .i64 0, .int .u32 (yy : Int), .int .u8 0, .int .i64 0] 37) := ⟨_, rfl⟩
          have hb3 : Below s2.heap.size s2 s3 := by rw [hs3]; exact (Below.refl _ _).alloc (Nat.le_refl _) _
          have HB4 := hid (HB2.out.trans (hb3.mono HB2.out.size))
          have HT4 := hid (HT2.out.below hb3)
          have HS3 := hid hs3
          clear hb3 hs3
          have HT5 := hid (show TbAt s3 b b va2 vo2 (St zz (64 + zz) (ovL zz)) by have h := HT4.out; rw [HYZ.out] at h; exact h)
          go_wp2_with fail
          rw [← HS3.out]
          go_roundw
          case rel => exact ⟨zz, _, _, (by first | rfl | simp), HZL.out, HT5.out, HB4.out⟩
          case measure => first | exact HMZ.out | (simp [intOf]; exact HMZ.out) | (have := HMZ.out; simp [intOf]; omega)
        · have hkk : k = kk := by omega
          subst hkk
          clear hlt hk
          have hki : ¬ (k : Int) < (k : Int) := by omega
          obtain ⟨x, hx⟩ : ∃ x, x = ((St k (64 + k) (ovL k)).job 1).1 := ⟨_, rfl⟩
          have HKN := hid (st_known k)
          have HJO := hid (job_at wr b b 1 va vo _ HTr.out (show (St k (64 + k) (ovL k)).job 1 = (x, decide (k ≤ 64)) from Prod.ext hx.symm HKN.out))
          clear hx
          obtain ⟨x0, x1, x2, x3, x4, x5⟩ := x
          unfold jv at HJO
          dsimp only at HJO
          have HOV := hid (fun (W : World) (h : TbAt W b b va vo (St k (64 + k) (ovL k))) => jover_any W b b va vo _ h)
          by_cases h64 : k ≤ 64
          · rw [decide_eq_true h64] at HJO
            have m1 : ¬ (64 : Int) < (k : Int) := by omega
            have m2 : (k : Int) ≤ 64 := by omega
            have m3 : decide ((k : Int) ≤ 64) = true := decide_eq_true m2
            have HLN := hid (show (ovL k).length = k by rw [ovL_len]; omega)
            have hmn : (if (64 : Int) < (k : Int) then (64 : Int) else (k : Int)) = (k : Int) := if_neg m1
            by_cases h0 : k = 0
            · have d0 : ((k : Int) == 0) = true := by rw [beq_iff_eq]; omega
              clear h64 h0
              go_wp2_with fail
              refine HJO.out.mono ?_
              rintro e s4 ⟨rfl, hb4⟩
              have HB4 := hid (HBr.out.trans (hb4.mono HBr.out.size))
              have HT4 := hid (HTr.out.below hb4)
              clear hb4
              obtain ⟨s5, hs5⟩ : ∃ z, z = s4.alloc (.cells #[.int .u32 (x0 : Int), .int .u8 (x1 : Int), .int .i64 x2, .int .i64 x3, .int .u8 (x4 : Int), .int .i64 x5] 44) := ⟨_, rfl⟩
              have hb5 : Below s4.heap.size s4 s5 := by rw [hs5]; exact (Below.refl _ _).alloc (Nat.le_refl _) _
              have HB5 := hid (HB4.out.trans (hb5.mono HB4.out.size))
              have HT5 := hid (HT4.out.below hb5)
              clear hb5
              go_wp2_with fail
              rw [← hs5]
              clear hs5
              refine (HOV.out s5 HT5.out).mono ?_
              rintro e s6 ⟨v6, rfl, ho6, hb6⟩
              obtain ⟨oa, oc, ev, -, -⟩ := owns_slice ho6
              rw [show (St k (64 + k) (ovL k)).over.length = k from HLN.out] at ev
              subst ev
              have HB6 := hid (HB5.out.trans (hb6.mono HB5.out.size))
              clear ho6 hb6
              go_wp2_with fail
              go_ret
              exact ⟨rfl, HB6.out⟩
            · have d0 : ((k : Int) == 0) = false := by rw [beq_eq_false_iff_ne]; omega
              clear h64 h0
              go_wp2_with fail
              refine HJO.out.mono ?_
              rintro e s4 ⟨rfl, hb4⟩
              have HB4 := hid (HBr.out.trans (hb4.mono HBr.out.size))
              have HT4 := hid (HTr.out.below hb4)
              clear hb4
              obtain ⟨s5, hs5⟩ : ∃ z, z = s4.alloc (.cells #[.int .u32 (x0 : Int), .int .u8 (x1 : Int), .int .i64 x2, .int .i64 x3, .int .u8 (x4 : Int), .int .i64 x5] 44) := ⟨_, rfl⟩
              have hb5 : Below s4.heap.size s4 s5 := by rw [hs5]; exact (Below.refl _ _).alloc (Nat.le_refl _) _
              have HB5 := hid (HB4.out.trans (hb5.mono HB4.out.size))
              have HT5 := hid (HT4.out.below hb5)
              clear hb5
              go_wp2_with fail
              rw [← hs5]
              clear hs5
              refine (HOV.out s5 HT5.out).mono ?_
              rintro e s6 ⟨v6, rfl, ho6, hb6⟩
              obtain ⟨oa, oc, ev, -, -⟩ := owns_slice ho6
              rw [show (St k (64 + k) (ovL k)).over.length = k from HLN.out] at ev
              subst ev
              have HB6 := hid (HB5.out.trans (hb6.mono HB5.out.size))
              clear ho6 hb6
              go_wp2_with fail
              go_ret
              exact ⟨rfl, HB6.out⟩
          · rw [decide_eq_false h64] at HJO
            have m1 : (64 : Int) < (k : Int) := by omega
            have m2 : ¬ (k : Int) ≤ 64 := by omega
            have m3 : decide ((k : Int) ≤ 64) = false := decide_eq_false m2
            have HLN := hid (show (ovL k).length = 64 by rw [ovL_len]; omega)
            have hmn : (if (64 : Int) < (k : Int) then (64 : Int) else (k : Int)) = 64 := if_pos m1
            have d0 : ((k : Int) == 0) = false := by rw [beq_eq_false_iff_ne]; omega
            clear h64
            go_wp2_with fail
            refine HJO.out.mono ?_
            rintro e s4 ⟨rfl, hb4⟩
            have HB4 := hid (HBr.out.trans (hb4.mono HBr.out.size))
            have HT4 := hid (HTr.out.below hb4)
            clear hb4
            obtain ⟨s5, hs5⟩ : ∃ z, z = s4.alloc (.cells #[.int .u32 (x0 : Int), .int .u8 (x1 : Int), .int .i64 x2, .int .i64 x3, .int .u8 (x4 : Int), .int .i64 x5] 44) := ⟨_, rfl⟩
            have hb5 : Below s4.heap.size s4 s5 := by rw [hs5]; exact (Below.refl _ _).alloc (Nat.le_refl _) _
            have HB5 := hid (HB4.out.trans (hb5.mono HB4.out.size))
            have HT5 := hid (HT4.out.below hb5)
            clear hb5
            go_wp2_with fail
            rw [← hs5]
            clear hs5
            refine (HOV.out s5 HT5.out).mono ?_
            rintro e s6 ⟨v6, rfl, ho6, hb6⟩
            obtain ⟨oa, oc, ev, -, -⟩ := owns_slice ho6
            rw [show (St k (64 + k) (ovL k)).over.length = 64 from HLN.out] at ev
            subst ev
            have HB6 := hid (HB5.out.trans (hb6.mono HB5.out.size))
            clear ho6 hb6
            go_wp2_with fail
            go_ret
            exact ⟨rfl, HB6.out⟩

/-! ### THE ROW's STEP -/
set_option maxRecDepth 100000 in
theorem lifted (os : Os) (started : os.Started) (H : Type) (enc : TypeId × Value → H) :
    ReturnsInHanded {} Try.checked os 5 .any (Rows.jobsFullSpec.pre6 enc Try.prog Try.f5 Rows.jobsFullRow.domain false) (Rows.jobsFullSpec.post enc Try.prog Try.f5 false true false false) := by
  refine returnsInHanded_of_change (C := Try.checked) own started (by kernel_rfl) Try.func5
    (ChangeSpec.witness6 (enc := enc) (C := Try.checked) false ⟨#[], #[.int .u8 0], []⟩ 8 (by kernel_rfl) (by kernel_rfl) (by kernel_rfl) (by kernel_rfl)) ?_
  intro W base args ds gs before hval0 hW hcnd _
  have hval : ∀ (j : Nat) t v, Try.f5.params[j]? = some t → args[j]? = some v → Value.okWide Try.prog W .any base t v := hval0
  have hW' := hW
  obtain ⟨p, q, hA0, hV, rfl, hfz, hnd⟩ := hW
  have hA : DataW.TrodAll enc Try.prog W 0 (fun _ => true) true Try.f5.params.toList args.toList ds p := hA0
  rw [Try.params5] at hA hval
  obtain ⟨v0, vs0, d0, ds0, p0, q0, hargs, rfl, rfl, h0, r0⟩ := trodAll_cons hA
  obtain ⟨rfl, rfl, rfl⟩ := trodAll_nil r0
  obtain rfl : args = #[v0] := by cases args; simp_all
  obtain ⟨rfl, rfl⟩ := trodVars_none hV
  have k0 := h0
  have lt0 : ∀ x ∈ p0, x.block < W.heap.size := by obtain ⟨m, hm⟩ := k0; exact DataW.trod_lt m _ _ _ hm
  obtain ⟨a0, rfl, rfl, rfl, w0⟩ := open_int Try.underlying5 (hval 0 5 v0 rfl rfl) h0
  clear hA0 hval0
  refine (walk a0 W w0).mono fun e W' ⟨he, bel⟩ => ?_
  subst he
  exact ⟨_, rfl, _, _, _, [], _, [], hW', trodAll_mk1 (shut_bool Try.underlying4 _), (trodAll_cons_mk (Below.trod laidOut (by kernel_rfl) (of_decide_eq_true (by kernel_rfl)) k0 bel lt0) trodAll_mk0), rfl, bel.frame _, fun h => by cases h⟩

theorem over : Rows.jobsFullRow.holds Try.pinned (OpenSpec.ofChange Rows.jobsFullSpec) :=
  OpenClaim.holds_of_wide 5 Try.f5 rfl rfl rfl rfl rfl rfl rfl ⟨rfl, rfl, rfl, rfl, rfl⟩ rfl rfl rfl rfl rfl (by kernel_rfl) Try.func5 (by kernel_rfl)
    (of_decide_eq_true (by kernel_rfl)) (by unfold Func.isWrapper; first | (rw [if_pos (by decide +kernel)]; kernel_rfl) | (rw [if_neg (by decide +kernel)]; exact ⟨rfl, rfl⟩))
    (fun os started H enc _ => lifted os started H enc)

/-- THE STATEMENT -/
theorem jobsFull_holds : Rows.JobsFullSaid := over
#print axioms jobsFull_holds
end Go.Proofs.Ytnjfmnombioacaa.jobsFull
