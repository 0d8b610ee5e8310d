/-
  ShuffleAgain: once jobs were put as far ahead as they go a second time moves nothing, nor are there rows to be put together; for every input.
  (The frame behind the walk is the guide's shell, at these parameters.)
-/
import Derived.Test.YtnffmijanikjgaaRows
import Derived.WalkKit
import Derived.Test.YtnffmijanikjgaaBldB
import Derived.Test.YtnffmijanikjgaaShfM
import Derived.ProofKit
import Derived.Deep.Cut
import Derived.Deep.CutRange
import Derived.Deep.CutBlock
import Derived.Deep.Grids
import Derived.OpenShut
import Derived.ShutString
import Derived.ChangeOld
import Derived.Below
namespace Go.Proofs.Ytnffmijanikjgaa.shuffleAgain
open Go.ChangeShapes Go.WideShapes Go.ChangeAt Go.RowKit
open Go.ChangeMaps (open_string shut_string)
set_option linter.unusedVariables false

theorem own : ownKnob Try.prog.godebug = none := by kernel_rfl
theorem laidOut : laidOutB Try.prog = true := by kernel_rfl

theorem none_slice {w : World} {base : Nat} {e : TypeId} {size : Nat} {v : Value} {xs : List Value} (h : w.ownsRow base e size v 0 xs) : ∃ a c, v = .slice a 0 c := by
  obtain ⟨a, c, h, _⟩ := owns_slice h
  exact ⟨a, c, h⟩

set_option maxHeartbeats 4000000 in
theorem walk (a0 : Int) (a1 : Int) (a2 : Option Addr) (len2 cap2 : Nat) (w : World) (w0 : (Lit.int .u8 a0).wf = true) (w1 : (Lit.int .u8 a1).wf = true) (w2 : IsStands w a2 len2 cap2) :
    Calls Try.prog 6 #[.int .u8 a0, .int .u8 a1, .slice a2 len2 cap2] w fun e w' => e = .returned (.bool true) ∧ Below w.heap.size w w' := by
  have bd0 := bounds_u8 w0
  have bd1 := bounds_u8 w1
  obtain ⟨r0, rfl⟩ := Int.eq_ofNat_of_zero_le (show 0 ≤ a0 by omega)
  obtain ⟨n0, rfl⟩ := Int.eq_ofNat_of_zero_le (show 0 ≤ a1 by omega)
  have HS := hid w2
  have HR0 := hid (show r0 < 256 by omega)
  have HN0 := hid (show n0 < 256 by omega)
  clear w0 w1 w2 bd0 bd1
  go_enter Try.func6, Try.ntmps6
  go_wp2_with fail
  refine (awake13_any w).mono ?_
  rintro e wa ⟨rfl, hba⟩
  have HBA := hid hba
  have hsa := hba.size
  clear hba
  go_wp2_with fail
  refine (build13_any wa r0 n0 0 HR0.out HN0.out (by decide) a2 len2 cap2 (HS.out.below HBA.out)).mono ?_
  rintro e wb ⟨lo, G, m, rfl, hX⟩
  have HX := hid hX
  have hlb := hX.at_.lt
  have HSB := hid (show wa.heap.size ≤ wb.heap.size from hX.bel.size)
  have hn16 := hX.at_.n16
  have HB0 := hid (show Below w.heap.size w wb from HBA.out.trans (hX.bel.mono hsa))
  have HONE := hid hX.one
  clear hX
  go_wp2_with fail
  refine (repack_any wb wa.heap.size m HX.out.at_ HONE.out).mono ?_
  rintro e w2 ⟨v1, rfl, -, hm2, hb2⟩
  have hw2 := repack_way hn16 HONE.out
  have HST := hid (repack_stable hn16 HONE.out)
  have HO2 := hid hw2.kp.one
  have HM2 := hid hm2
  have HB2 := hid (HB0.out.trans (hb2.mono HB0.out.size))
  have hl2 := hm2.lt
  have hs2 := hb2.size
  generalize m.repack.1 = m2 at *
  clear hm2 hb2 hw2
  go_wp2_with fail
  go_loop [9, 31] (fun c i => c = .pointer (some ⟨wb.heap.size, 0, none⟩) ∧ i = .int .i64 0) (fun _ i => 9 - (intOf i).toNat)
  case atStart => exact ⟨rfl, rfl⟩
  case round =>
    obtain ⟨rfl, rfl⟩ := hrel
    go_wp2_with fail
    refine (repack_any w2 wb.heap.size m2 HM2.out HO2.out).mono ?_
    rintro e w3 ⟨v2, rfl, hv3, hm3, hb3⟩
    rw [repack_again HST.out] at hv3 hm3
    obtain ⟨a3, c3, rfl⟩ := none_slice hv3
    have HM3 := hid hm3
    have HB3 := hid (HB2.out.trans (hb3.mono HB2.out.size))
    clear hv3 hm3 hb3
    go_wp2_with fail
    refine (repack_any w3 w2.heap.size m2 HM3.out HO2.out).mono ?_
    rintro e w4 ⟨v4, rfl, hv4, hm4, hb4⟩
    rw [repack_again HST.out] at hv4
    obtain ⟨a4, c4, rfl⟩ := none_slice hv4
    have HM4 := hid (HM3.out.below hb4 HM3.out.lt)
    have HB4 := hid (HB3.out.trans (hb4.mono HB3.out.size))
    clear hv4 hm4 hb4
    go_wp2_with fail
    refine (unify_any w4 w2.heap.size m2 HM4.out HO2.out).mono ?_
    rintro e w5 ⟨v5, rfl, hv5, hm5, hb5⟩
    rw [unify_stable HST.out] at hv5
    obtain ⟨a5, c5, rfl⟩ := none_slice hv5
    have HB5 := hid (HB4.out.trans (hb5.mono HB4.out.size))
    clear hv5 hm5 hb5
    go_wp2_with fail
    go_ret
    exact ⟨rfl, HB5.out⟩

/-! ### THE ROW's STEP -/
set_option maxRecDepth 100000 in
theorem lifted (os : Os) (started : os.Started) (H : Type) (enc : TypeId × Value → H) :
    ReturnsInHanded {} Try.checked os 6 .any (Rows.shuffleAgainSpec.pre6 enc Try.prog Try.f6 Rows.shuffleAgainRow.domain false) (Rows.shuffleAgainSpec.post enc Try.prog Try.f6 false true false false) := by
  refine returnsInHanded_of_change (C := Try.checked) own started (by kernel_rfl) Try.func6
    (ChangeSpec.witness6 (enc := enc) (C := Try.checked) false ⟨#[], #[.int .u8 0, .int .u8 0, .slice none 0 0], []⟩ 8 (by kernel_rfl) (by kernel_rfl) (by kernel_rfl) (by kernel_rfl)) ?_
  intro W base args ds gs before hval0 hW hcnd _
  have hval : ∀ (j : Nat) t v, Try.f6.params[j]? = some t → args[j]? = some v → Value.okWide Try.prog W .any base t v := hval0
  have hW' := hW
  obtain ⟨p, q, hA0, hV, rfl, hfz, hnd⟩ := hW
  have hA : DataW.TrodAll enc Try.prog W 0 (fun _ => true) true Try.f6.params.toList args.toList ds p := hA0
  rw [Try.params6] at hA hval
  obtain ⟨v0, vs0, d0, ds0, p0, q0, hargs, rfl, rfl, h0, r0⟩ := trodAll_cons hA
  obtain ⟨v1, vs1, d1, ds1, p1, q1, rfl, rfl, rfl, h1, r1⟩ := trodAll_cons r0
  obtain ⟨v2, vs2, d2, ds2, p2, q2, rfl, rfl, rfl, h2, r2⟩ := trodAll_cons r1
  obtain ⟨rfl, rfl, rfl⟩ := trodAll_nil r2
  obtain rfl : args = #[v0, v1, v2] := by cases args; simp_all
  obtain ⟨rfl, rfl⟩ := trodVars_none hV
  have k0 := h0
  have lt0 : ∀ x ∈ p0, x.block < W.heap.size := by obtain ⟨m, hm⟩ := k0; exact DataW.trod_lt m _ _ _ hm
  have k1 := h1
  have lt1 : ∀ x ∈ p1, x.block < W.heap.size := by obtain ⟨m, hm⟩ := k1; exact DataW.trod_lt m _ _ _ hm
  have k2 := h2
  have lt2 : ∀ x ∈ p2, x.block < W.heap.size := by obtain ⟨m, hm⟩ := k2; exact DataW.trod_lt m _ _ _ hm
  obtain ⟨a0, rfl, rfl, rfl, w0⟩ := open_int Try.underlying5 (hval 0 5 v0 rfl rfl) h0
  obtain ⟨a1, rfl, rfl, rfl, w1⟩ := open_int Try.underlying5 (hval 1 5 v1 rfl rfl) h1
  obtain ⟨a2, len2, cap2, rfl⟩ := okWide_slice Try.underlying54 (hval 2 54 v2 rfl rfl)
  have w2 : IsStands W a2 len2 cap2 := isStands_of h2
  clear hA0 hval0
  refine (walk a0 a1 a2 len2 cap2 W w0 w1 w2).mono fun e W' ⟨he, bel⟩ => ?_
  subst he
  exact ⟨_, rfl, _, _, _, [], _, [], hW', trodAll_mk1 (shut_bool Try.underlying4 _), (trodAll_cons_mk (Below.trod laidOut (by kernel_rfl) (of_decide_eq_true (by kernel_rfl)) k0 bel lt0) (trodAll_cons_mk (Below.trod laidOut (by kernel_rfl) (of_decide_eq_true (by kernel_rfl)) k1 bel lt1) (trodAll_cons_mk (Below.trod laidOut (by kernel_rfl) (of_decide_eq_true (by kernel_rfl)) k2 bel lt2) trodAll_mk0))), rfl, bel.frame _, fun h => by cases h⟩

theorem over : Rows.shuffleAgainRow.holds Try.pinned (OpenSpec.ofChange Rows.shuffleAgainSpec) :=
  OpenClaim.holds_of_wide 6 Try.f6 rfl rfl rfl rfl rfl rfl rfl ⟨rfl, rfl, rfl, rfl, rfl⟩ rfl rfl rfl rfl rfl (by kernel_rfl) Try.func6 (by kernel_rfl)
    (of_decide_eq_true (by kernel_rfl)) (by unfold Func.isWrapper; first | (rw [if_pos (by decide +kernel)]; kernel_rfl) | (rw [if_neg (by decide +kernel)]; exact ⟨rfl, rfl⟩))
    (fun os started H enc _ => lifted os started H enc)

/-- THE STATEMENT -/
theorem shuffleAgain_holds : Rows.ShuffleAgainSaid := over
#print axioms shuffleAgain_holds
end Go.Proofs.Ytnffmijanikjgaa.shuffleAgain
