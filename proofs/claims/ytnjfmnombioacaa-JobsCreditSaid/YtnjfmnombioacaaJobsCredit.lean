/-
  JobsCredit: whatever credits a job is given, one after the other, its credit goes up to its W and no farther, and never down; done it is its W, cancelled it is what it was. No condition.
  (The frame behind the walk is the guide's shell, at these parameters.)
-/
import Derived.Test.YtnjfmnombioacaaRows
import Derived.WalkKit
import Derived.Test.YtnjfmnombioacaaJbK
import Derived.ProofKit
import Derived.Deep.Cut
import Derived.Deep.CutRange
import Derived.Deep.CutBlock
import Derived.Deep.Grids
import Derived.OpenShut
import Derived.ShutString
import Derived.ChangeOld
import Derived.Below
namespace Go.Proofs.Ytnjfmnombioacaa.jobsCredit
open Go.ChangeShapes Go.WideShapes Go.ChangeAt Go.RowKit
open Go.ChangeMaps (open_string shut_string)
set_option linter.unusedVariables false

theorem own : ownKnob Try.prog.godebug = none := by kernel_rfl
theorem laidOut : laidOutB Try.prog = true := by kernel_rfl

set_option linter.unusedSimpArgs false
theorem ints_at {w w' : World} {a : Option Addr} {len cap : Nat} {zs : List Int} (h : IsRow .i64 w a len cap zs) (hb : Below w.heap.size w w') {k : Nat} (hk : k < len) : ∃ b off, a = some ⟨b, off, none⟩ ∧ w'.cell? ⟨b, off + k, none⟩ = some (.int .i64 (zs.getD k 0)) := by
  rcases h with ⟨rfl, rfl, _, _⟩ | ⟨x, rfl, h1, h2, h3, h4, _⟩
  · omega
  · have hc := h4 k (by omega)
    obtain ⟨b, off, spot⟩ := x
    have h0 := h4 0 (by omega)
    have hs : spot = none := by simpa [Addr.add] using World.cell?_spot h0
    subst hs
    have hlt := World.block_lt_of_cell? _ _ hc
    rw [Addr.add_lit] at hc hlt
    exact ⟨b, off, rfl, (hb.cell (p := ⟨b, off + k, none⟩) hlt).trans hc⟩
theorem credit_at (w : World) (lo b z : Nat) (x : Int) (va vo : Value) (t : Tb) (h : TbAt w lo b va vo t) {e : Int} {t' : Tb} (he : t.credit z x = (e, t')) :
    Calls Try.prog 21 #[.pointer (some ⟨b, 0, none⟩), .int .u32 (z : Int), .int .i64 x] w fun r w' => r = .returned (.int .i64 e) ∧ ∃ va' vo', Stp w lo b va vo w' va' vo' t' := by
  have h1 := credit_any w lo b z x va vo t h
  rw [he] at h1
  exact h1
theorem finish_at (w : World) (lo b z : Nat) (va vo : Value) (t : Tb) (h : TbAt w lo b va vo t) (hv : t.over.length ≤ 64) {e : Int} {t' : Tb} (he : t.finish z = (e, t')) :
    Calls Try.prog 12 #[.pointer (some ⟨b, 0, none⟩), .int .u32 (z : Int)] w fun r w' => r = .returned (.int .i64 e) ∧ ∃ va' vo', Stp w lo b va vo w' va' vo' t' := by
  have h1 := finish_any w lo b z va vo t h hv (by have := h.lt; have := h.lob; omega)
  rw [he] at h1
  exact h1
theorem job_at (w : World) (lo b z : Nat) (va vo : Value) (t : Tb) (h : TbAt w lo b va vo t) {x : Jb} {ok : Bool} (he : t.job z = (x, ok)) :
    Calls Try.prog 19 #[.pointer (some ⟨b, 0, none⟩), .int .u32 (z : Int)] w fun e w' => e = .returned (.tuple #[jv x, .bool ok]) ∧ Below w.heap.size w w' := by
  have h1 := job_any w lo b z va vo t h
  rw [he] at h1
  exact h1
set_option maxRecDepth 100000 in
set_option maxHeartbeats 8000000 in
theorem walk (a0 : Int) (a1 : Option Addr) (len1 cap1 : Nat) (z1 : List Int) (a2 : Bool) (w : World) (w0 : (Lit.int .u8 a0).wf = true) (w1 : IsRow .i64 w a1 len1 cap1 z1) :
    Calls Try.prog 7 #[.int .u8 a0, .slice a1 len1 cap1, .bool a2] w fun e w' => e = .returned (.bool true) ∧ Below w.heap.size w w' := by
  obtain ⟨nn, hnn⟩ : ∃ k : Nat, a0 = (k : Int) := ⟨a0.toNat, by have := bounds_u8 w0; omega⟩
  subst hnn
  have hnb : nn < 256 := by have := bounds_u8 w0; omega
  clear w0
  obtain ⟨hlc, hcm, -⟩ := w1.bounds
  have HROW := hid w1
  clear w1
  have hw1 : IntKind.i64.wrap (nn : Int) = (nn : Int) := by rw [IntKind.wrap_i64]; omega
  have hw2 : IntKind.i64.wrap (1 + (nn : Int)) = 1 + (nn : Int) := by rw [IntKind.wrap_i64]; omega
  obtain ⟨N, hN⟩ : ∃ N : Int, N = 1 + (nn : Int) := ⟨_, rfl⟩
  have HN1 := hid (show 1 ≤ N ∧ N ≤ 256 by omega)
  have hNe : 1 + (nn : Int) = N := hN.symm
  rw [hNe] at hw2
  clear hN hnb
  go_enter Try.func7, Try.ntmps7
  go_wp2_with fail
  refine (awake16_any w).mono ?_
  rintro e x1 ⟨rfl, hb1⟩
  have HB1 := hid hb1
  clear hb1
  go_wp2_with fail
  refine (jnew_any 4 x1 (by omega) (by omega)).mono ?_
  rintro e x2 ⟨rfl, ht, hb⟩
  obtain ⟨b, hbb⟩ : ∃ b, b = x1.heap.size := ⟨_, rfl⟩
  have HLO := hid (show w.heap.size ≤ b by have := HB1.out.size; omega)
  rw [← hbb] at ht
  simp only [← hbb]
  have HT := hid ht
  have HB := hid (HB1.out.trans (hb.mono HB1.out.size))
  clear ht hb hbb HB1
  have HD := hid (show Calls Try.prog 11 #[.pointer (some ⟨b, 0, none⟩), .agg #[.int .u8 0, .int .u32 1, .int .u8 1, .int .u8 0, .int .i64 1, .int .i64 N, .int .u32 0]] x2 fun e w' => e = .returned (.tuple #[.agg #[.int .u8 0, .int .u32 1, .int .i64 0, .int .u32 1, .int .u8 0, .int .i64 0], .bool true]) ∧ ∃ va' vo', Stp x2 b b (.slice none 0 0) (.slice none 0 0) w' va' vo' (crT N 0) from do_at x2 b b _ _ (newTb 4) (crQ N) HT.out (Nat.le_of_ble_eq_true rfl) (Nat.le_of_ble_eq_true rfl) (by have := HN1.out; unfold Note.Q.wf crQ; simp; omega) (show (1 : Nat) ≠ 3 by decide) (cr_1 N HN1.out.1 HN1.out.2))
  go_wp2_with fail
  refine HD.out.mono ?_
  rintro e x3 ⟨rfl, va0, vo0, hs⟩
  have HB := hid (hs.bel HT.out HB.out HLO.out HB.out.size)
  have HT := hid hs.tb
  clear hs HD hw1 hw2
  go_wp2_with fail
  go_loopw [34, 10] (fun i bst wr => ∃ (k : Nat) (c : Int) (va vo : Value), i = .int .i64 k ∧ bst = .int .i64 c ∧ k ≤ len1 ∧ TbAt wr b b va vo (crT N c) ∧ Below w.heap.size w wr) (fun i _ _ => len1 - (intOf i).toNat)
  case atStart => exact ⟨0, 0, _, _, rfl, rfl, Nat.zero_le _, HT.out, HB.out⟩
  case round =>
    obtain ⟨k, c, va, vo, rfl, rfl, hk, ht, hb⟩ := hrel
    have HTk := hid ht
    have HBk := hid hb
    clear ht hb
    by_cases hlt : k < len1
    · obtain ⟨g, off, rfl, z0⟩ := ints_at HROW.out HBk.out hlt
      have hki : (k : Int) < (len1 : Int) := by omega
      obtain ⟨x, hx⟩ : ∃ x, x = z1.getD k 0 := ⟨_, rfl⟩
      rw [← hx] at z0
      clear hx
      by_cases h30 : 30 ≤ k
      · have d1 : decide ((k : Int) ≥ 30) = true := decide_eq_true (by omega)
        have d2 : decide ((30 : Int) ≤ (k : Int)) = true := decide_eq_true (by omega)
        clear h30 hk
        rcases a2 with _ | _
        · have HJO := hid (fun (W : World) (va vo : Value) (h : TbAt W b b va vo (dnT N)) => show Calls Try.prog 19 #[.pointer (some ⟨b, 0, none⟩), .int .u32 1] W fun e w' => e = .returned (.tuple #[.agg #[.int .u32 1, .int .u8 0, .int .i64 1, .int .i64 N, .int .u8 4, .int .i64 N], .bool true]) ∧ Below W.heap.size W w' from job_at W b b 1 va vo _ h (dn_job N))
          have HCA := hid (fun (W : World) (va vo : Value) (h : TbAt W b b va vo (dnT N)) => show Calls Try.prog 21 #[.pointer (some ⟨b, 0, none⟩), .int .u32 1, .int .i64 N] W fun e w' => e = .returned (.int .i64 10) ∧ ∃ va' vo', Stp W b b va vo w' va' vo' (dnT N) from credit_at W b b 1 N va vo _ h (dn_credit N N))
          have HFI := hid (fun (W : World) (va vo : Value) (h : TbAt W b b va vo (dnT N)) => show Calls Try.prog 12 #[.pointer (some ⟨b, 0, none⟩), .int .u32 1] W fun e w' => e = .returned (.int .i64 10) ∧ ∃ va' vo', Stp W b b va vo w' va' vo' (dnT N) from finish_at W b b 1 va vo _ h (Nat.le_of_ble_eq_true rfl) (dn_finish N))
          have HF1 := hid (finish_at wr b b 1 va vo _ HTk.out (Nat.le_of_ble_eq_true rfl) (cr_finish N c))
          go_wp2_with fail
          refine HF1.out.mono ?_
          rintro e s1 ⟨rfl, va', vo', hs⟩
          have HB2 := hid (hs.bel HTk.out HBk.out HLO.out HBk.out.size)
          have HT2 := hid hs.tb
          clear hs
          go_wp2_with fail
          refine (HJO.out s1 _ _ HT2.out).mono ?_
          rintro e s2 ⟨rfl, hb2⟩
          have HB3 := hid (HB2.out.trans (hb2.mono HB2.out.size))
          have HT3 := hid (HT2.out.below hb2)
          clear hb2
          obtain ⟨s3, hs3⟩ : ∃ z, z = s2.alloc (.cells #[.int .u32 1, .int .u8 0, .int .i64 1, .int .i64 N, .int .u8 4, .int .i64 N] 44) := ⟨_, rfl⟩
          obtain ⟨gj, hgj⟩ : ∃ z, z = s2.heap.size := ⟨_, rfl⟩
          have hb3 : Below s2.heap.size s2 s3 := by rw [hs3]; exact (Below.refl _ _).alloc (Nat.le_refl _) _
          have hxj : s3.heap[gj]? = some (.cells #[.int .u32 1, .int .u8 0, .int .i64 1, .int .i64 N, .int .u8 4, .int .i64 N] 44 (0, 0)) := by rw [hs3, hgj]; exact heap_alloc_new s2 _
          have HB4 := hid (HB3.out.trans (hb3.mono HB3.out.size))
          have HT4 := hid (HT3.out.below hb3)
          have HS3 := hid hs3
          have HGJ := hid hgj
          clear hb3 hs3 hgj
          go_upto_region 30 with (fail)
          rw [← HS3.out]
          simp only [← HGJ.out]
          have j4 : s3.cell? ⟨gj, 4, none⟩ = some (.int .u8 4) := (cell_of_row _ _ _ _ _ _ hxj).trans rfl
          have j5 : s3.cell? ⟨gj, 5, none⟩ = some (.int .i64 N) := (cell_of_row _ _ _ _ _ _ hxj).trans rfl
          clear hxj
          go_wp2_with fail
          refine (HCA.out s3 _ _ HT4.out).mono ?_
          rintro e s4 ⟨rfl, va2, vo2, hs⟩
          have HB5 := hid (hs.bel HT4.out HB4.out HLO.out HB4.out.size)
          have HT5 := hid hs.tb
          clear hs j4 j5
          go_wp2_with fail
          refine (HFI.out s4 _ _ HT5.out).mono ?_
          rintro e s5 ⟨rfl, va3, vo3, hs⟩
          have HB6 := hid (hs.bel HT5.out HB5.out HLO.out HB5.out.size)
          clear hs
          go_wp2_with fail
          go_ret
          exact ⟨rfl, HB6.out⟩
        · have HJO := hid (fun (W : World) (va vo : Value) (h : TbAt W b b va vo (cnT N c)) => show Calls Try.prog 19 #[.pointer (some ⟨b, 0, none⟩), .int .u32 1] W fun e w' => e = .returned (.tuple #[.agg #[.int .u32 1, .int .u8 0, .int .i64 1, .int .i64 N, .int .u8 5, .int .i64 c], .bool true]) ∧ Below W.heap.size W w' from job_at W b b 1 va vo _ h (cn_job N c))
          have HCA := hid (fun (W : World) (va vo : Value) (h : TbAt W b b va vo (cnT N c)) => show Calls Try.prog 21 #[.pointer (some ⟨b, 0, none⟩), .int .u32 1, .int .i64 N] W fun e w' => e = .returned (.int .i64 10) ∧ ∃ va' vo', Stp W b b va vo w' va' vo' (cnT N c) from credit_at W b b 1 N va vo _ h (cn_credit N c N))
          have HFI := hid (fun (W : World) (va vo : Value) (h : TbAt W b b va vo (cnT N c)) => show Calls Try.prog 12 #[.pointer (some ⟨b, 0, none⟩), .int .u32 1] W fun e w' => e = .returned (.int .i64 10) ∧ ∃ va' vo', Stp W b b va vo w' va' vo' (cnT N c) from finish_at W b b 1 va vo _ h (Nat.le_of_ble_eq_true rfl) (cn_finish N c))
          have HD := hid (show Calls Try.prog 11 #[.pointer (some ⟨b, 0, none⟩), .agg #[.int .u8 0, .int .u32 2, .int .u8 2, .int .u8 0, .int .i64 0, .int .i64 0, .int .u32 1]] wr fun e w' => e = .returned (.tuple #[.agg #[.int .u8 0, .int .u32 2, .int .i64 0, .int .u32 1, .int .u8 0, .int .i64 0], .bool true]) ∧ ∃ va' vo', Stp wr b b va vo w' va' vo' (cnT N c) from do_at wr b b va vo (crT N c) cnQ HTk.out (Nat.le_of_ble_eq_true rfl) (Nat.le_of_ble_eq_true rfl) (by unfold Note.Q.wf cnQ; simp) (by decide) (cr_cancel N c))
          go_wp2_with fail
          refine HD.out.mono ?_
          rintro e s1 ⟨rfl, va', vo', hs⟩
          have HB2 := hid (hs.bel HTk.out HBk.out HLO.out HBk.out.size)
          have HT2 := hid hs.tb
          clear hs
          go_wp2_with fail
          refine (HJO.out s1 _ _ HT2.out).mono ?_
          rintro e s2 ⟨rfl, hb2⟩
          have HB3 := hid (HB2.out.trans (hb2.mono HB2.out.size))
          have HT3 := hid (HT2.out.below hb2)
          clear hb2
          obtain ⟨s3, hs3⟩ : ∃ z, z = s2.alloc (.cells #[.int .u32 1, .int .u8 0, .int .i64 1, .int .i64 N, .int .u8 5, .int .i64 c] 44) := ⟨_, rfl⟩
          obtain ⟨gj, hgj⟩ : ∃ z, z = s2.heap.size := ⟨_, rfl⟩
          have hb3 : Below s2.heap.size s2 s3 := by rw [hs3]; exact (Below.refl _ _).alloc (Nat.le_refl _) _
          have hxj : s3.heap[gj]? = some (.cells #[.int .u32 1, .int .u8 0, .int .i64 1, .int .i64 N, .int .u8 5, .int .i64 c] 44 (0, 0)) := by rw [hs3, hgj]; exact heap_alloc_new s2 _
          have HB4 := hid (HB3.out.trans (hb3.mono HB3.out.size))
          have HT4 := hid (HT3.out.below hb3)
          have HS3 := hid hs3
          have HGJ := hid hgj
          clear hb3 hs3 hgj
          go_upto_region 30 with (fail)
          rw [← HS3.out]
          simp only [← HGJ.out]
          have j4 : s3.cell? ⟨gj, 4, none⟩ = some (.int .u8 5) := (cell_of_row _ _ _ _ _ _ hxj).trans rfl
          have j5 : s3.cell? ⟨gj, 5, none⟩ = some (.int .i64 c) := (cell_of_row _ _ _ _ _ _ hxj).trans rfl
          clear hxj
          go_wp2_with fail
          refine (HCA.out s3 _ _ HT4.out).mono ?_
          rintro e s4 ⟨rfl, va2, vo2, hs⟩
          have HB5 := hid (hs.bel HT4.out HB4.out HLO.out HB4.out.size)
          have HT5 := hid hs.tb
          clear hs j4 j5
          go_wp2_with fail
          refine (HFI.out s4 _ _ HT5.out).mono ?_
          rintro e s5 ⟨rfl, va3, vo3, hs⟩
          have HB6 := hid (hs.bel HT5.out HB5.out HLO.out HB5.out.size)
          clear hs
          go_wp2_with fail
          go_ret
          exact ⟨rfl, HB6.out⟩
      · have d1 : decide ((k : Int) ≥ 30) = false := decide_eq_false (by omega)
        have d2 : decide ((30 : Int) ≤ (k : Int)) = false := decide_eq_false (by omega)
        clear h30 hk
        have HCR := hid (cr_credit N c x)
        by_cases h1 : x < 0
        · have HCA := hid (credit_at wr b b 1 x va vo (crT N c) HTk.out (show (crT N c).credit 1 x = (1, (crT N c)) by rw [HCR.out]; rw [if_pos (.inl h1)]))
          have HJO := hid (fun (W : World) (va vo : Value) (h : TbAt W b b va vo (crT N c)) => show Calls Try.prog 19 #[.pointer (some ⟨b, 0, none⟩), .int .u32 1] W fun e w' => e = .returned (.tuple #[.agg #[.int .u32 1, .int .u8 0, .int .i64 1, .int .i64 N, .int .u8 0, .int .i64 c], .bool true]) ∧ Below W.heap.size W w' from job_at W b b 1 va vo _ h (cr_job N c))
          have e1 : decide (x < 0) = true := decide_eq_true h1
          clear h1
          go_wp2_with fail
          refine HCA.out.mono ?_
          rintro e s1 ⟨rfl, va', vo', hs⟩
          have HB2 := hid (hs.bel HTk.out HBk.out HLO.out HBk.out.size)
          have HT2 := hid hs.tb
          clear hs z0
          go_wp2_with fail
          refine (HJO.out s1 _ _ HT2.out).mono ?_
          rintro e s2 ⟨rfl, hb2⟩
          have HB3 := hid (HB2.out.trans (hb2.mono HB2.out.size))
          have HT3 := hid (HT2.out.below hb2)
          clear hb2
          obtain ⟨s3, hs3⟩ : ∃ z, z = s2.alloc (.cells #[.int .u32 1, .int .u8 0, .int .i64 1, .int .i64 N, .int .u8 0, .int .i64 c] 44) := ⟨_, rfl⟩
          have hb3 : Below s2.heap.size s2 s3 := by rw [hs3]; exact (Below.refl _ _).alloc (Nat.le_refl _) _
          have HB4 := hid (HB3.out.trans (hb3.mono HB3.out.size))
          have HT4 := hid (HT3.out.below hb3)
          clear hb3
          go_wp2_with fail
          rw [← hs3]
          go_roundw
          case rel => exact ⟨k + 1, c, _, _, by go_num, rfl, hlt, HT4.out, HB4.out⟩
          case measure => simp [intOf]; omega
        · by_cases h2 : N < x
          · have HCA := hid (credit_at wr b b 1 x va vo (crT N c) HTk.out (show (crT N c).credit 1 x = (1, (crT N c)) by rw [HCR.out]; rw [if_pos (.inr h2)]))
            have HJO := hid (fun (W : World) (va vo : Value) (h : TbAt W b b va vo (crT N c)) => show Calls Try.prog 19 #[.pointer (some ⟨b, 0, none⟩), .int .u32 1] W fun e w' => e = .returned (.tuple #[.agg #[.int .u32 1, .int .u8 0, .int .i64 1, .int .i64 N, .int .u8 0, .int .i64 c], .bool true]) ∧ Below W.heap.size W w' from job_at W b b 1 va vo _ h (cr_job N c))
            have e1 : decide (x < 0) = false := decide_eq_false h1
            have e2 : decide (x > N) = true := decide_eq_true h2
            have e2' : decide (N < x) = true := decide_eq_true h2
            clear h1 h2
            go_wp2_with fail
            refine HCA.out.mono ?_
            rintro e s1 ⟨rfl, va', vo', hs⟩
            have HB2 := hid (hs.bel HTk.out HBk.out HLO.out HBk.out.size)
            have HT2 := hid hs.tb
            clear hs z0
            go_wp2_with fail
            refine (HJO.out s1 _ _ HT2.out).mono ?_
            rintro e s2 ⟨rfl, hb2⟩
            have HB3 := hid (HB2.out.trans (hb2.mono HB2.out.size))
            have HT3 := hid (HT2.out.below hb2)
            clear hb2
            obtain ⟨s3, hs3⟩ : ∃ z, z = s2.alloc (.cells #[.int .u32 1, .int .u8 0, .int .i64 1, .int .i64 N, .int .u8 0, .int .i64 c] 44) := ⟨_, rfl⟩
            have hb3 : Below s2.heap.size s2 s3 := by rw [hs3]; exact (Below.refl _ _).alloc (Nat.le_refl _) _
            have HB4 := hid (HB3.out.trans (hb3.mono HB3.out.size))
            have HT4 := hid (HT3.out.below hb3)
            clear hb3
            go_wp2_with fail
            rw [← hs3]
            go_roundw
            case rel => exact ⟨k + 1, c, _, _, by go_num, rfl, hlt, HT4.out, HB4.out⟩
            case measure => simp [intOf]; omega
          · by_cases h3 : x < c
            · have HCA := hid (credit_at wr b b 1 x va vo (crT N c) HTk.out (show (crT N c).credit 1 x = (12, (crT N c)) by rw [HCR.out]; rw [if_neg (by omega), if_pos h3]))
              have HJO := hid (fun (W : World) (va vo : Value) (h : TbAt W b b va vo (crT N c)) => show Calls Try.prog 19 #[.pointer (some ⟨b, 0, none⟩), .int .u32 1] W fun e w' => e = .returned (.tuple #[.agg #[.int .u32 1, .int .u8 0, .int .i64 1, .int .i64 N, .int .u8 0, .int .i64 c], .bool true]) ∧ Below W.heap.size W w' from job_at W b b 1 va vo _ h (cr_job N c))
              have e1 : decide (x < 0) = false := decide_eq_false h1
              have e2 : decide (x > N) = false := decide_eq_false h2
              have e2' : decide (N < x) = false := decide_eq_false h2
              have e3 : decide (x < c) = true := decide_eq_true h3
              clear h1 h2 h3
              go_wp2_with fail
              refine HCA.out.mono ?_
              rintro e s1 ⟨rfl, va', vo', hs⟩
              have HB2 := hid (hs.bel HTk.out HBk.out HLO.out HBk.out.size)
              have HT2 := hid hs.tb
              clear hs z0
              go_wp2_with fail
              refine (HJO.out s1 _ _ HT2.out).mono ?_
              rintro e s2 ⟨rfl, hb2⟩
              have HB3 := hid (HB2.out.trans (hb2.mono HB2.out.size))
              have HT3 := hid (HT2.out.below hb2)
              clear hb2
              obtain ⟨s3, hs3⟩ : ∃ z, z = s2.alloc (.cells #[.int .u32 1, .int .u8 0, .int .i64 1, .int .i64 N, .int .u8 0, .int .i64 c] 44) := ⟨_, rfl⟩
              have hb3 : Below s2.heap.size s2 s3 := by rw [hs3]; exact (Below.refl _ _).alloc (Nat.le_refl _) _
              have HB4 := hid (HB3.out.trans (hb3.mono HB3.out.size))
              have HT4 := hid (HT3.out.below hb3)
              clear hb3
              go_wp2_with fail
              rw [← hs3]
              go_roundw
              case rel => exact ⟨k + 1, c, _, _, by go_num, rfl, hlt, HT4.out, HB4.out⟩
              case measure => simp [intOf]; omega
            · have HCA := hid (credit_at wr b b 1 x va vo (crT N c) HTk.out (show (crT N c).credit 1 x = (0, (crT N x)) by rw [HCR.out]; rw [if_neg (by omega), if_neg h3]))
              have HJO := hid (fun (W : World) (va vo : Value) (h : TbAt W b b va vo (crT N x)) => show Calls Try.prog 19 #[.pointer (some ⟨b, 0, none⟩), .int .u32 1] W fun e w' => e = .returned (.tuple #[.agg #[.int .u32 1, .int .u8 0, .int .i64 1, .int .i64 N, .int .u8 0, .int .i64 x], .bool true]) ∧ Below W.heap.size W w' from job_at W b b 1 va vo _ h (cr_job N x))
              have e1 : decide (x < 0) = false := decide_eq_false h1
              have e2 : decide (x > N) = false := decide_eq_false h2
              have e2' : decide (N < x) = false := decide_eq_false h2
              have e3 : decide (x < c) = false := decide_eq_false h3
              clear h1 h2 h3
              go_wp2_with fail
              refine HCA.out.mono ?_
              rintro e s1 ⟨rfl, va', vo', hs⟩
              have HB2 := hid (hs.bel HTk.out HBk.out HLO.out HBk.out.size)
              have HT2 := hid hs.tb
              clear hs z0
              go_wp2_with fail
              refine (HJO.out s1 _ _ HT2.out).mono ?_
              rintro e s2 ⟨rfl, hb2⟩
              have HB3 := hid (HB2.out.trans (hb2.mono HB2.out.size))
              have HT3 := hid (HT2.out.below hb2)
              clear hb2
              obtain ⟨s3, hs3⟩ : ∃ z, z = s2.alloc (.cells #[.int .u32 1, .int .u8 0, .int .i64 1, .int .i64 N, .int .u8 0, .int .i64 x] 44) := ⟨_, rfl⟩
              have hb3 : Below s2.heap.size s2 s3 := by rw [hs3]; exact (Below.refl _ _).alloc (Nat.le_refl _) _
              have HB4 := hid (HB3.out.trans (hb3.mono HB3.out.size))
              have HT4 := hid (HT3.out.below hb3)
              clear hb3
              go_wp2_with fail
              rw [← hs3]
              go_roundw
              case rel => exact ⟨k + 1, x, _, _, by go_num, rfl, hlt, HT4.out, HB4.out⟩
              case measure => simp [intOf]; omega
    · have hki : ¬ (k : Int) < (len1 : Int) := by omega
      clear hlt hk
      rcases a2 with _ | _
      · have HJO := hid (fun (W : World) (va vo : Value) (h : TbAt W b b va vo (dnT N)) => show Calls Try.prog 19 #[.pointer (some ⟨b, 0, none⟩), .int .u32 1] W fun e w' => e = .returned (.tuple #[.agg #[.int .u32 1, .int .u8 0, .int .i64 1, .int .i64 N, .int .u8 4, .int .i64 N], .bool true]) ∧ Below W.heap.size W w' from job_at W b b 1 va vo _ h (dn_job N))
        have HCA := hid (fun (W : World) (va vo : Value) (h : TbAt W b b va vo (dnT N)) => show Calls Try.prog 21 #[.pointer (some ⟨b, 0, none⟩), .int .u32 1, .int .i64 N] W fun e w' => e = .returned (.int .i64 10) ∧ ∃ va' vo', Stp W b b va vo w' va' vo' (dnT N) from credit_at W b b 1 N va vo _ h (dn_credit N N))
        have HFI := hid (fun (W : World) (va vo : Value) (h : TbAt W b b va vo (dnT N)) => show Calls Try.prog 12 #[.pointer (some ⟨b, 0, none⟩), .int .u32 1] W fun e w' => e = .returned (.int .i64 10) ∧ ∃ va' vo', Stp W b b va vo w' va' vo' (dnT N) from finish_at W b b 1 va vo _ h (Nat.le_of_ble_eq_true rfl) (dn_finish N))
        have HF1 := hid (finish_at wr b b 1 va vo _ HTk.out (Nat.le_of_ble_eq_true rfl) (cr_finish N c))
        go_wp2_with fail
        refine HF1.out.mono ?_
        rintro e s1 ⟨rfl, va', vo', hs⟩
        have HB2 := hid (hs.bel HTk.out HBk.out HLO.out HBk.out.size)
        have HT2 := hid hs.tb
        clear hs
        go_wp2_with fail
        refine (HJO.out s1 _ _ HT2.out).mono ?_
        rintro e s2 ⟨rfl, hb2⟩
        have HB3 := hid (HB2.out.trans (hb2.mono HB2.out.size))
        have HT3 := hid (HT2.out.below hb2)
        clear hb2
        obtain ⟨s3, hs3⟩ : ∃ z, z = s2.alloc (.cells #[.int .u32 1, .int .u8 0, .int .i64 1, .int .i64 N, .int .u8 4, .int .i64 N] 44) := ⟨_, rfl⟩
        obtain ⟨gj, hgj⟩ : ∃ z, z = s2.heap.size := ⟨_, rfl⟩
        have hb3 : Below s2.heap.size s2 s3 := by rw [hs3]; exact (Below.refl _ _).alloc (Nat.le_refl _) _
        have hxj : s3.heap[gj]? = some (.cells #[.int .u32 1, .int .u8 0, .int .i64 1, .int .i64 N, .int .u8 4, .int .i64 N] 44 (0, 0)) := by rw [hs3, hgj]; exact heap_alloc_new s2 _
        have HB4 := hid (HB3.out.trans (hb3.mono HB3.out.size))
        have HT4 := hid (HT3.out.below hb3)
        have HS3 := hid hs3
        have HGJ := hid hgj
        clear hb3 hs3 hgj
        go_upto_region 30 with (fail)
        rw [← HS3.out]
        simp only [← HGJ.out]
        have j4 : s3.cell? ⟨gj, 4, none⟩ = some (.int .u8 4) := (cell_of_row _ _ _ _ _ _ hxj).trans rfl
        have j5 : s3.cell? ⟨gj, 5, none⟩ = some (.int .i64 N) := (cell_of_row _ _ _ _ _ _ hxj).trans rfl
        clear hxj
        go_wp2_with fail
        refine (HCA.out s3 _ _ HT4.out).mono ?_
        rintro e s4 ⟨rfl, va2, vo2, hs⟩
        have HB5 := hid (hs.bel HT4.out HB4.out HLO.out HB4.out.size)
        have HT5 := hid hs.tb
        clear hs j4 j5
        go_wp2_with fail
        refine (HFI.out s4 _ _ HT5.out).mono ?_
        rintro e s5 ⟨rfl, va3, vo3, hs⟩
        have HB6 := hid (hs.bel HT5.out HB5.out HLO.out HB5.out.size)
        clear hs
        go_wp2_with fail
        go_ret
        exact ⟨rfl, HB6.out⟩
      · have HJO := hid (fun (W : World) (va vo : Value) (h : TbAt W b b va vo (cnT N c)) => show Calls Try.prog 19 #[.pointer (some ⟨b, 0, none⟩), .int .u32 1] W fun e w' => e = .returned (.tuple #[.agg #[.int .u32 1, .int .u8 0, .int .i64 1, .int .i64 N, .int .u8 5, .int .i64 c], .bool true]) ∧ Below W.heap.size W w' from job_at W b b 1 va vo _ h (cn_job N c))
        have HCA := hid (fun (W : World) (va vo : Value) (h : TbAt W b b va vo (cnT N c)) => show Calls Try.prog 21 #[.pointer (some ⟨b, 0, none⟩), .int .u32 1, .int .i64 N] W fun e w' => e = .returned (.int .i64 10) ∧ ∃ va' vo', Stp W b b va vo w' va' vo' (cnT N c) from credit_at W b b 1 N va vo _ h (cn_credit N c N))
        have HFI := hid (fun (W : World) (va vo : Value) (h : TbAt W b b va vo (cnT N c)) => show Calls Try.prog 12 #[.pointer (some ⟨b, 0, none⟩), .int .u32 1] W fun e w' => e = .returned (.int .i64 10) ∧ ∃ va' vo', Stp W b b va vo w' va' vo' (cnT N c) from finish_at W b b 1 va vo _ h (Nat.le_of_ble_eq_true rfl) (cn_finish N c))
        have HD := hid (show Calls Try.prog 11 #[.pointer (some ⟨b, 0, none⟩), .agg #[.int .u8 0, .int .u32 2, .int .u8 2, .int .u8 0, .int .i64 0, .int .i64 0, .int .u32 1]] wr fun e w' => e = .returned (.tuple #[.agg #[.int .u8 0, .int .u32 2, .int .i64 0, .int .u32 1, .int .u8 0, .int .i64 0], .bool true]) ∧ ∃ va' vo', Stp wr b b va vo w' va' vo' (cnT N c) from do_at wr b b va vo (crT N c) cnQ HTk.out (Nat.le_of_ble_eq_true rfl) (Nat.le_of_ble_eq_true rfl) (by unfold Note.Q.wf cnQ; simp) (by decide) (cr_cancel N c))
        go_wp2_with fail
        refine HD.out.mono ?_
        rintro e s1 ⟨rfl, va', vo', hs⟩
        have HB2 := hid (hs.bel HTk.out HBk.out HLO.out HBk.out.size)
        have HT2 := hid hs.tb
        clear hs
        go_wp2_with fail
        refine (HJO.out s1 _ _ HT2.out).mono ?_
        rintro e s2 ⟨rfl, hb2⟩
        have HB3 := hid (HB2.out.trans (hb2.mono HB2.out.size))
        have HT3 := hid (HT2.out.below hb2)
        clear hb2
        obtain ⟨s3, hs3⟩ : ∃ z, z = s2.alloc (.cells #[.int .u32 1, .int .u8 0, .int .i64 1, .int .i64 N, .int .u8 5, .int .i64 c] 44) := ⟨_, rfl⟩
        obtain ⟨gj, hgj⟩ : ∃ z, z = s2.heap.size := ⟨_, rfl⟩
        have hb3 : Below s2.heap.size s2 s3 := by rw [hs3]; exact (Below.refl _ _).alloc (Nat.le_refl _) _
        have hxj : s3.heap[gj]? = some (.cells #[.int .u32 1, .int .u8 0, .int .i64 1, .int .i64 N, .int .u8 5, .int .i64 c] 44 (0, 0)) := by rw [hs3, hgj]; exact heap_alloc_new s2 _
        have HB4 := hid (HB3.out.trans (hb3.mono HB3.out.size))
        have HT4 := hid (HT3.out.below hb3)
        have HS3 := hid hs3
        have HGJ := hid hgj
        clear hb3 hs3 hgj
        go_upto_region 30 with (fail)
        rw [← HS3.out]
        simp only [← HGJ.out]
        have j4 : s3.cell? ⟨gj, 4, none⟩ = some (.int .u8 5) := (cell_of_row _ _ _ _ _ _ hxj).trans rfl
        have j5 : s3.cell? ⟨gj, 5, none⟩ = some (.int .i64 c) := (cell_of_row _ _ _ _ _ _ hxj).trans rfl
        clear hxj
        go_wp2_with fail
        refine (HCA.out s3 _ _ HT4.out).mono ?_
        rintro e s4 ⟨rfl, va2, vo2, hs⟩
        have HB5 := hid (hs.bel HT4.out HB4.out HLO.out HB4.out.size)
        have HT5 := hid hs.tb
        clear hs j4 j5
        go_wp2_with fail
        refine (HFI.out s4 _ _ HT5.out).mono ?_
        rintro e s5 ⟨rfl, va3, vo3, hs⟩
        have HB6 := hid (hs.bel HT5.out HB5.out HLO.out HB5.out.size)
        clear hs
        go_wp2_with fail
        go_ret
        exact ⟨rfl, HB6.out⟩

/-! ### THE ROW's STEP -/
set_option maxRecDepth 100000 in
theorem lifted (os : Os) (started : os.Started) (H : Type) (enc : TypeId × Value → H) :
    ReturnsInHanded {} Try.checked os 7 .any (Rows.jobsCreditSpec.pre6 enc Try.prog Try.f7 Rows.jobsCreditRow.domain false) (Rows.jobsCreditSpec.post enc Try.prog Try.f7 false true false false) := by
  refine returnsInHanded_of_change (C := Try.checked) own started (by kernel_rfl) Try.func7
    (ChangeSpec.witness6 (enc := enc) (C := Try.checked) false ⟨#[], #[.int .u8 0, .slice none 0 0, .bool false], []⟩ 8 (by kernel_rfl) (by kernel_rfl) (by kernel_rfl) (by kernel_rfl)) ?_
  intro W base args ds gs before hval0 hW hcnd _
  have hval : ∀ (j : Nat) t v, Try.f7.params[j]? = some t → args[j]? = some v → Value.okWide Try.prog W .any base t v := hval0
  have hW' := hW
  obtain ⟨p, q, hA0, hV, rfl, hfz, hnd⟩ := hW
  have hA : DataW.TrodAll enc Try.prog W 0 (fun _ => true) true Try.f7.params.toList args.toList ds p := hA0
  rw [Try.params7] at hA hval
  obtain ⟨v0, vs0, d0, ds0, p0, q0, hargs, rfl, rfl, h0, r0⟩ := trodAll_cons hA
  obtain ⟨v1, vs1, d1, ds1, p1, q1, rfl, rfl, rfl, h1, r1⟩ := trodAll_cons r0
  obtain ⟨v2, vs2, d2, ds2, p2, q2, rfl, rfl, rfl, h2, r2⟩ := trodAll_cons r1
  obtain ⟨rfl, rfl, rfl⟩ := trodAll_nil r2
  obtain rfl : args = #[v0, v1, v2] := by cases args; simp_all
  obtain ⟨rfl, rfl⟩ := trodVars_none hV
  have k0 := h0
  have lt0 : ∀ x ∈ p0, x.block < W.heap.size := by obtain ⟨m, hm⟩ := k0; exact DataW.trod_lt m _ _ _ hm
  have k1 := h1
  have lt1 : ∀ x ∈ p1, x.block < W.heap.size := by obtain ⟨m, hm⟩ := k1; exact DataW.trod_lt m _ _ _ hm
  have k2 := h2
  have lt2 : ∀ x ∈ p2, x.block < W.heap.size := by obtain ⟨m, hm⟩ := k2; exact DataW.trod_lt m _ _ _ hm
  obtain ⟨a0, rfl, rfl, rfl, w0⟩ := open_int Try.underlying5 (hval 0 5 v0 rfl rfl) h0
  obtain ⟨a1, len1, cap1, rfl⟩ := okWide_slice Try.underlying57 (hval 1 57 v1 rfl rfl)
  obtain ⟨z1, w1⟩ : ∃ zs, IsRow .i64 W a1 len1 cap1 zs := by
    obtain ⟨fuel, hf⟩ := h1
    rcases open_ints Try.underlying57 Try.underlying3 (by kernel_rfl) hf with ⟨hcs, _⟩ | ⟨x, l, c, zs, hcs, _, hl, hm, hz, _, hcell, hwz⟩
    · simp [Value.cells] at hcs
      obtain ⟨rfl, rfl, rfl⟩ := hcs
      exact ⟨[], .inl ⟨rfl, rfl, rfl, rfl⟩⟩
    · simp [Value.cells] at hcs
      obtain ⟨rfl, rfl, rfl⟩ := hcs
      exact ⟨zs, .inr ⟨_, rfl, hl, hm, by simpa using hz, hcell, hwz⟩⟩
  obtain ⟨a2, rfl, rfl, rfl⟩ := open_bool Try.underlying4 (hval 2 4 v2 rfl rfl) h2
  clear hA0 hval0
  refine (walk a0 a1 len1 cap1 z1 a2 W w0 w1).mono fun e W' ⟨he, bel⟩ => ?_
  subst he
  exact ⟨_, rfl, _, _, _, [], _, [], hW', trodAll_mk1 (shut_bool Try.underlying4 _), (trodAll_cons_mk (Below.trod laidOut (by kernel_rfl) (of_decide_eq_true (by kernel_rfl)) k0 bel lt0) (trodAll_cons_mk (Below.trod laidOut (by kernel_rfl) (of_decide_eq_true (by kernel_rfl)) k1 bel lt1) (trodAll_cons_mk (Below.trod laidOut (by kernel_rfl) (of_decide_eq_true (by kernel_rfl)) k2 bel lt2) trodAll_mk0))), rfl, bel.frame _, fun h => by cases h⟩

theorem over : Rows.jobsCreditRow.holds Try.pinned (OpenSpec.ofChange Rows.jobsCreditSpec) :=
  OpenClaim.holds_of_wide 7 Try.f7 rfl rfl rfl rfl rfl rfl rfl ⟨rfl, rfl, rfl, rfl, rfl⟩ rfl rfl rfl rfl rfl (by kernel_rfl) Try.func7 (by kernel_rfl)
    (of_decide_eq_true (by kernel_rfl)) (by unfold Func.isWrapper; first | (rw [if_pos (by decide +kernel)]; kernel_rfl) | (rw [if_neg (by decide +kernel)]; exact ⟨rfl, rfl⟩))
    (fun os started H enc _ => lifted os started H enc)

/-- THE STATEMENT -/
theorem jobsCredit_holds : Rows.JobsCreditSaid := over
#print axioms jobsCredit_holds
end Go.Proofs.Ytnjfmnombioacaa.jobsCredit
