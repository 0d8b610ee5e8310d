/-
  ShufflePlays: of any matrix rows are put together, and jobs put ahead, as the document says; the matrix stays as it was, a nil one is none; for every input.
  (The frame behind the walk is the guide's shell, at these parameters.)
-/
import Derived.Test.YtnffmijanikjgaaRows
import Derived.WalkKit
import Derived.Test.YtnffmijanikjgaaBldB
import Derived.Test.YtnffmijanikjgaaRxM
import Derived.ProofKit
import Derived.Deep.Cut
import Derived.Deep.CutRange
import Derived.Deep.CutBlock
import Derived.Deep.Grids
import Derived.OpenShut
import Derived.ShutString
import Derived.ChangeOld
import Derived.Below
namespace Go.Proofs.Ytnffmijanikjgaa.shufflePlays
open Go.ChangeShapes Go.WideShapes Go.ChangeAt Go.RowKit
open Go.ChangeMaps (open_string shut_string)
set_option linter.unusedVariables false

theorem own : ownKnob Try.prog.godebug = none := by kernel_rfl
theorem laidOut : laidOutB Try.prog = true := by kernel_rfl

set_option maxRecDepth 100000 in
set_option maxHeartbeats 8000000 in
theorem walk (a0 : Int) (a1 : Int) (a2 : Option Addr) (len2 cap2 : Nat) (a3 : Int) (w : World) (w0 : (Lit.int .u8 a0).wf = true) (w1 : (Lit.int .u8 a1).wf = true) (w2 : IsStands w a2 len2 cap2) (w3 : (Lit.int .u16 a3).wf = true) :
    Calls Try.prog 4 #[.int .u8 a0, .int .u8 a1, .slice a2 len2 cap2, .int .u16 a3] w fun e w' => e = .returned (.bool true) ∧ Below w.heap.size w w' := by
  have bd0 := bounds_u8 w0
  have bd1 := bounds_u8 w1
  have bd3 := bounds_u16 w3
  obtain ⟨r0, rfl⟩ := Int.eq_ofNat_of_zero_le (show 0 ≤ a0 by omega)
  obtain ⟨n0, rfl⟩ := Int.eq_ofNat_of_zero_le (show 0 ≤ a1 by omega)
  obtain ⟨d0, rfl⟩ := Int.eq_ofNat_of_zero_le (show 0 ≤ a3 by omega)
  have HS := hid w2
  have HR0 := hid (show r0 < 256 by omega)
  have HN0 := hid (show n0 < 256 by omega)
  have HD0 := hid (show d0 < 65536 by omega)
  clear w0 w1 w2 w3 bd0 bd1 bd3
  go_enter Try.func4, Try.ntmps4
  go_wp2_with fail
  refine (awake13_any w).mono ?_
  rintro e wa ⟨rfl, hba⟩
  have HBA := hid hba
  have hsa := hba.size
  clear hba
  go_wp2_with fail
  refine (build13_any wa r0 n0 d0 HR0.out HN0.out HD0.out a2 len2 cap2 (HS.out.below HBA.out)).mono ?_
  rintro e wb ⟨lo, G, m, rfl, hX⟩
  have hlb := hX.at_.lt
  have hn16 := hX.at_.n16
  have HB0 := hid (show Below w.heap.size w wb from HBA.out.trans (hX.bel.mono hsa))
  have HONE := hid hX.one
  have HM0 := hid hX.at_
  have HX0 := hid hX.rx
  clear hX
  go_wp2_with fail
  refine (unify_any wb wa.heap.size m HM0.out HONE.out).mono ?_
  rintro e w2 ⟨v1, rfl, hv1, hm1, hb2⟩
  have HV1 := hid hv1
  have HU1 := hid hm1
  have HB2 := hid (HB0.out.trans (hb2.mono HB0.out.size))
  have HM2 := hid (HM0.out.below hb2 hlb)
  have HX2 := hid (HX0.out.below hb2 (Nat.le_refl _))
  have hs2 := hb2.size
  have hl2 := hm1.lt
  clear hv1 hm1 hb2
  go_wp2_with fail
  refine (runify_any w2 lo G m HX2.out HONE.out).mono ?_
  rintro e w3 ⟨H, v2, rfl, hv2, hx2, hb3⟩
  have HV2 := hid hv2
  have HU2 := hid hx2
  have HV12 := hid (owns_below HV1.out hb3)
  have HU12 := hid (HU1.out.below hb3 hl2)
  have HB3 := hid (HB2.out.trans (hb3.mono HB2.out.size))
  have HM3 := hid (HM2.out.below hb3 (by omega))
  have HX3 := hid (HX2.out.below hb3 (Nat.le_refl _))
  have hs3 := hb3.size
  clear hv2 hx2 hb3 HV1 HU1
  go_wp2_with fail
  refine (repack_any w3 wa.heap.size m HM3.out HONE.out).mono ?_
  rintro e w4 ⟨v3, rfl, hv3, hm3, hb4⟩
  have HV3 := hid hv3
  have HU3 := hid hm3
  have HV13 := hid (owns_below HV12.out hb4)
  have HU13 := hid (HU12.out.below hb4 (by omega))
  have HV23 := hid (owns_below HV2.out hb4)
  have HU23 := hid (HU2.out.below hb4 (Nat.le_refl _))
  have HB4 := hid (HB3.out.trans (hb4.mono HB3.out.size))
  have HM4 := hid (HM3.out.below hb4 (by omega))
  have HX4 := hid (HX3.out.below hb4 (Nat.le_refl _))
  have hs4 := hb4.size
  have hl4 := hm3.lt
  clear hv3 hm3 hb4 HV12 HU12 HV2 HU2
  go_wp2_with fail
  refine (rrepack_any w4 lo G m HX4.out HONE.out).mono ?_
  rintro e w5 ⟨H2, v4, rfl, hv4, hx4, hb5⟩
  have HV4 := hid hv4
  have HU4 := hid hx4
  have HV1 := hid (owns_below HV13.out hb5)
  have HU1 := hid (HU13.out.below hb5 (by omega))
  have HV2 := hid (owns_below HV23.out hb5)
  have HU2 := hid (HU23.out.below hb5 (Nat.le_refl _))
  have HV34 := hid (owns_below HV3.out hb5)
  have HU34 := hid (HU3.out.below hb5 hl4)
  have HB5 := hid (HB4.out.trans (hb5.mono HB4.out.size))
  have HM5 := hid (HM4.out.below hb5 (by omega))
  have HX5 := hid (HX4.out.below hb5 (Nat.le_refl _))
  have hs5 := hb5.size
  have hc0 := HX5.out.c0
  have hccr := HX5.out.ccr
  have hccm := HX5.out.ccm
  have hr8 := HX5.out.r8
  have hri : (m.r : Int) ≤ 8 := by omega
  clear hv4 hx4 hb5 HV13 HU13 HV23 HU23 HV3 HU3
  go_wp2_with fail
  refine (unify_nil w5).mono ?_
  rintro e w6 ⟨rfl, rfl⟩
  go_wp2_with fail
  go_loopw [21, 62] (fun v i wr => ∃ k : Nat, k ≤ m.r ∧ i = .int .i64 k ∧ v = .int .i64 (m.usedTo k : Nat) ∧ Below w5.heap.size w5 wr) (fun _ i _ => m.r - (intOf i).toNat)
  case atStart => exact ⟨0, Nat.zero_le _, rfl, rfl, Below.refl _ _⟩
  case round =>
    obtain ⟨k, hk, rfl, rfl, hB⟩ := hrel
    have HK := hid hB
    have hs0 := hB.size
    have HX6 := hid (HX5.out.below hB (Nat.le_refl _))
    have hul := usedTo_le m k
    clear hB hc0
    by_cases hlt : k < m.r
    · have hki : (k : Int) < (m.r : Int) := by omega
      have HU := hid (usedTo_succ m k)
      go_wp2_with fail
      refine (rrow_any wr lo G m k HX6.out HONE.out hlt).mono ?_
      rintro e w7 ⟨v7, rfl, hv7, hb7⟩
      have HB7 := hid hb7
      obtain ⟨ad, cp, rfl, hcl, hcm⟩ := (RdV.of_own hv7).len
      rw [List.length_map] at hcl
      clear hv7 hb7
      rw [List.length_map]
      cases hrow : m.row k with
      | nil =>
        have HU2 := hid (show m.usedTo (k + 1) = m.usedTo k by rw [HU.out, hrow]; rfl)
        clear hrow hcl
        generalize m.usedTo k = uk at *
        go_wp2
        go_roundw
        case rel => exact ⟨k + 1, hlt, by go_num, by rw [HU2.out], HK.out.trans (HB7.out.mono hs0)⟩
        case measure => simp [intOf]; omega
      | cons x xs =>
        have HU2 := hid (show m.usedTo (k + 1) = m.usedTo k + 1 by rw [HU.out, hrow]; rfl)
        have hl1 : ((x :: xs).length : Int) > 0 := by simp
        have hl2 : decide (((x :: xs).length : Int) > 0) = true := by simp
        generalize (x :: xs).length = q at *
        have hq0 : (0 : Int) < (q : Int) := hl1
        clear hrow hl1
        generalize m.usedTo k = uk at *
        go_wp2
        go_roundw
        case rel => exact ⟨k + 1, hlt, by go_num, by rw [HU2.out]; go_num, HK.out.trans (HB7.out.mono hs0)⟩
        case measure => simp [intOf]; omega
    · have hke : k = m.r := by omega
      have HE := hid (show m.usedTo k = m.used by rw [hke]; rfl)
      have hki : ¬ (k : Int) < (m.r : Int) := by omega
      clear hke hlt
      rw [HE.out]
      have HP1 := hid (same13_any wr wb.heap.size w2.heap.size wb.heap.size w2.heap.size H m.unify.1 v1 v2 m.unify.2 (HU1.out.below HK.out (by omega)) (HU2.out.below HK.out (Nat.le_refl _)) (owns_below HV1.out HK.out) (owns_below HV2.out HK.out))
      have HP2 := hid (fun w8 (h : Below wr.heap.size wr w8) => same13_any w8 w3.heap.size w4.heap.size w3.heap.size w4.heap.size H2 m.repack.1 _ _ m.repack.2 ((HU34.out.below HK.out (by omega)).below h (by omega)) ((HU4.out.below HK.out (Nat.le_refl _)).below h (Nat.le_refl _)) (owns_below (owns_below HV34.out HK.out) h) (owns_below (owns_below HV4.out HK.out) h))
      have HP3 := hid (fun w8 (h : Below wr.heap.size wr w8) => same13_any w8 wa.heap.size lo w8.heap.size w8.heap.size G m (.slice none 0 0) (.slice none 0 0) [] ((HM5.out.below HK.out (by omega)).below h (by omega)) ((HX5.out.below HK.out (Nat.le_refl _)).below h (Nat.le_refl _)) (World.ownsRow_nil _ _ _ _) (World.ownsRow_nil _ _ _ _))
      have HP4 := hid (fun w8 (h : Below wr.heap.size wr w8) => used_any w8 wa.heap.size m ((HM5.out.below HK.out (by omega)).below h (by omega)))
      have HP5 := hid used_nil
      clear HU1 HU2 HU34 HU4 HV1 HV2 HV34 HV4
      generalize m.used = us at *
      go_wp2_with (first
        | (go_at_call 31; (with_reducible refine HP1.out.mono ?_); rintro e w8 ⟨rfl, hb8⟩; have HB8 := hid hb8; have hs8 := hb8.size; clear hb8)
        | (go_at_call 31; (with_reducible refine (HP2.out w8 HB8.out).mono ?_); rintro e w9 ⟨rfl, hb9⟩; have HB9 := hid (HB8.out.trans (hb9.mono hs8)); have hs9 := hb9.size; clear hb9)
        | (go_at_call 31; (with_reducible refine (HP3.out w9 HB9.out).mono ?_); rintro e w10 ⟨rfl, hb10⟩; have HB10 := hid (HB9.out.trans (hb10.mono (by omega))); have hs10 := hb10.size; clear hb10)
        | (go_at_call 32; (with_reducible refine (HP4.out w10 HB10.out).mono ?_); rintro e w11 ⟨rfl, hb11⟩; have HB11 := hid (HB10.out.trans (hb11.mono (by omega))); clear hb11)
        | (go_at_call 32; (with_reducible refine (HP5.out w11).mono ?_); rintro e w12 ⟨rfl, rfl⟩)
        | fail)
      go_ret
      exact ⟨rfl, HB5.out.trans ((HK.out.mono HB5.out.size).trans (HB11.out.mono (Nat.le_trans HB5.out.size hs0)))⟩

/-! ### THE ROW's STEP -/
set_option maxRecDepth 100000 in
theorem lifted (os : Os) (started : os.Started) (H : Type) (enc : TypeId × Value → H) :
    ReturnsInHanded {} Try.checked os 4 .any (Rows.shufflePlaysSpec.pre6 enc Try.prog Try.f4 Rows.shufflePlaysRow.domain false) (Rows.shufflePlaysSpec.post enc Try.prog Try.f4 false true false false) := by
  refine returnsInHanded_of_change (C := Try.checked) own started (by kernel_rfl) Try.func4
    (ChangeSpec.witness6 (enc := enc) (C := Try.checked) false ⟨#[], #[.int .u8 0, .int .u8 0, .slice none 0 0, .int .u16 0], []⟩ 8 (by kernel_rfl) (by kernel_rfl) (by kernel_rfl) (by kernel_rfl)) ?_
  intro W base args ds gs before hval0 hW hcnd _
  have hval : ∀ (j : Nat) t v, Try.f4.params[j]? = some t → args[j]? = some v → Value.okWide Try.prog W .any base t v := hval0
  have hW' := hW
  obtain ⟨p, q, hA0, hV, rfl, hfz, hnd⟩ := hW
  have hA : DataW.TrodAll enc Try.prog W 0 (fun _ => true) true Try.f4.params.toList args.toList ds p := hA0
  rw [Try.params4] at hA hval
  obtain ⟨v0, vs0, d0, ds0, p0, q0, hargs, rfl, rfl, h0, r0⟩ := trodAll_cons hA
  obtain ⟨v1, vs1, d1, ds1, p1, q1, rfl, rfl, rfl, h1, r1⟩ := trodAll_cons r0
  obtain ⟨v2, vs2, d2, ds2, p2, q2, rfl, rfl, rfl, h2, r2⟩ := trodAll_cons r1
  obtain ⟨v3, vs3, d3, ds3, p3, q3, rfl, rfl, rfl, h3, r3⟩ := trodAll_cons r2
  obtain ⟨rfl, rfl, rfl⟩ := trodAll_nil r3
  obtain rfl : args = #[v0, v1, v2, v3] := by cases args; simp_all
  obtain ⟨rfl, rfl⟩ := trodVars_none hV
  have k0 := h0
  have lt0 : ∀ x ∈ p0, x.block < W.heap.size := by obtain ⟨m, hm⟩ := k0; exact DataW.trod_lt m _ _ _ hm
  have k1 := h1
  have lt1 : ∀ x ∈ p1, x.block < W.heap.size := by obtain ⟨m, hm⟩ := k1; exact DataW.trod_lt m _ _ _ hm
  have k2 := h2
  have lt2 : ∀ x ∈ p2, x.block < W.heap.size := by obtain ⟨m, hm⟩ := k2; exact DataW.trod_lt m _ _ _ hm
  have k3 := h3
  have lt3 : ∀ x ∈ p3, x.block < W.heap.size := by obtain ⟨m, hm⟩ := k3; exact DataW.trod_lt m _ _ _ hm
  obtain ⟨a0, rfl, rfl, rfl, w0⟩ := open_int Try.underlying5 (hval 0 5 v0 rfl rfl) h0
  obtain ⟨a1, rfl, rfl, rfl, w1⟩ := open_int Try.underlying5 (hval 1 5 v1 rfl rfl) h1
  obtain ⟨a2, len2, cap2, rfl⟩ := okWide_slice Try.underlying54 (hval 2 54 v2 rfl rfl)
  have w2 : IsStands W a2 len2 cap2 := isStands_of h2
  obtain ⟨a3, rfl, rfl, rfl, w3⟩ := open_int Try.underlying55 (hval 3 55 v3 rfl rfl) h3
  clear hA0 hval0
  refine (walk a0 a1 a2 len2 cap2 a3 W w0 w1 w2 w3).mono fun e W' ⟨he, bel⟩ => ?_
  subst he
  exact ⟨_, rfl, _, _, _, [], _, [], hW', trodAll_mk1 (shut_bool Try.underlying4 _), (trodAll_cons_mk (Below.trod laidOut (by kernel_rfl) (of_decide_eq_true (by kernel_rfl)) k0 bel lt0) (trodAll_cons_mk (Below.trod laidOut (by kernel_rfl) (of_decide_eq_true (by kernel_rfl)) k1 bel lt1) (trodAll_cons_mk (Below.trod laidOut (by kernel_rfl) (of_decide_eq_true (by kernel_rfl)) k2 bel lt2) (trodAll_cons_mk (Below.trod laidOut (by kernel_rfl) (of_decide_eq_true (by kernel_rfl)) k3 bel lt3) trodAll_mk0)))), rfl, bel.frame _, fun h => by cases h⟩

theorem over : Rows.shufflePlaysRow.holds Try.pinned (OpenSpec.ofChange Rows.shufflePlaysSpec) :=
  OpenClaim.holds_of_wide 4 Try.f4 rfl rfl rfl rfl rfl rfl rfl ⟨rfl, rfl, rfl, rfl, rfl⟩ rfl rfl rfl rfl rfl (by kernel_rfl) Try.func4 (by kernel_rfl)
    (of_decide_eq_true (by kernel_rfl)) (by unfold Func.isWrapper; first | (rw [if_pos (by decide +kernel)]; kernel_rfl) | (rw [if_neg (by decide +kernel)]; exact ⟨rfl, rfl⟩))
    (fun os started H enc _ => lifted os started H enc)

/-- THE STATEMENT -/
theorem shufflePlays_holds : Rows.ShufflePlaysSaid := over
#print axioms shufflePlays_holds
end Go.Proofs.Ytnffmijanikjgaa.shufflePlays
