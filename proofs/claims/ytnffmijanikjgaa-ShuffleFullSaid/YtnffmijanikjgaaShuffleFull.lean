/-
  ShuffleFull: once rows were put together no two that have anybody can be, and a second time moves nothing; for every input.
  (The frame behind the walk is the guide's shell, at these parameters.)
-/
import Derived.Test.YtnffmijanikjgaaRows
import Derived.WalkKit
import Derived.Test.YtnffmijanikjgaaBldB
import Derived.Test.YtnffmijanikjgaaShfM
import Derived.ProofKit
import Derived.Deep.Cut
import Derived.Deep.CutRange
import Derived.Deep.CutBlock
import Derived.Deep.Grids
import Derived.OpenShut
import Derived.ShutString
import Derived.ChangeOld
import Derived.Below
namespace Go.Proofs.Ytnffmijanikjgaa.shuffleFull
open Go.ChangeShapes Go.WideShapes Go.ChangeAt Go.RowKit
open Go.ChangeMaps (open_string shut_string)
set_option linter.unusedVariables false

theorem own : ownKnob Try.prog.godebug = none := by kernel_rfl
theorem laidOut : laidOutB Try.prog = true := by kernel_rfl

theorem none_slice {w : World} {base : Nat} {e : TypeId} {size : Nat} {v : Value} {xs : List Value} (h : w.ownsRow base e size v 0 xs) : ∃ a c, v = .slice a 0 c := by
  obtain ⟨a, c, h, _⟩ := owns_slice h
  exact ⟨a, c, h⟩

set_option maxHeartbeats 8000000 in
theorem walk (a0 : Int) (a1 : Int) (a2 : Option Addr) (len2 cap2 : Nat) (w : World) (w0 : (Lit.int .u8 a0).wf = true) (w1 : (Lit.int .u8 a1).wf = true) (w2 : IsStands w a2 len2 cap2) :
    Calls Try.prog 8 #[.int .u8 a0, .int .u8 a1, .slice a2 len2 cap2] w fun e w' => e = .returned (.bool true) ∧ Below w.heap.size w w' := by
  have bd0 := bounds_u8 w0
  have bd1 := bounds_u8 w1
  obtain ⟨r0, rfl⟩ := Int.eq_ofNat_of_zero_le (show 0 ≤ a0 by omega)
  obtain ⟨n0, rfl⟩ := Int.eq_ofNat_of_zero_le (show 0 ≤ a1 by omega)
  have HS := hid w2
  have HR0 := hid (show r0 < 256 by omega)
  have HN0 := hid (show n0 < 256 by omega)
  clear w0 w1 w2 bd0 bd1
  go_enter Try.func8, Try.ntmps8
  go_wp2_with fail
  refine (awake13_any w).mono ?_
  rintro e wa ⟨rfl, hba⟩
  have HBA := hid hba
  have hsa := hba.size
  clear hba
  go_wp2_with fail
  refine (build13_any wa r0 n0 0 HR0.out HN0.out (by decide) a2 len2 cap2 (HS.out.below HBA.out)).mono ?_
  rintro e wb ⟨lo, G, m, rfl, hX⟩
  have HX := hid hX
  have hlb := hX.at_.lt
  have HSB := hid (show wa.heap.size ≤ wb.heap.size from hX.bel.size)
  have hn16 := hX.at_.n16
  have HB0 := hid (show Below w.heap.size w wb from HBA.out.trans (hX.bel.mono hsa))
  have HONE := hid hX.one
  clear hX
  go_wp2_with fail
  refine (unify_any wb wa.heap.size m HX.out.at_ HONE.out).mono ?_
  rintro e w2 ⟨v1, rfl, -, hm2, hb2⟩
  have hw2 := unify_way hn16 HONE.out
  have HOV := hid (unify_ov hn16 HONE.out)
  have HAG := hid (unify_again hn16 HONE.out)
  have HO2 := hid hw2.kp.one
  have HM2 := hid hm2
  have HB2 := hid (HB0.out.trans (hb2.mono HB0.out.size))
  have hl2 := hm2.lt
  have hs2 := hb2.size
  generalize m.unify.1 = m2 at *
  clear hm2 hb2 hw2
  go_wp2_with fail
  refine (unify_any w2 wb.heap.size m2 HM2.out HO2.out).mono ?_
  rintro e w3 ⟨v2, rfl, hv3, hm3, hb3⟩
  rw [HAG.out] at hv3
  obtain ⟨a3, c3, rfl⟩ := none_slice hv3
  have HM3 := hid (HM2.out.below hb3 hl2)
  have HB3 := hid (HB2.out.trans (hb3.mono HB2.out.size))
  have hr8 := HM3.out.r8
  have hn16' := HM3.out.n16
  have hri : (m2.r : Int) ≤ 8 := by omega
  have hni : (m2.n : Int) ≤ 16 := by omega
  clear hv3 hm3 hb3
  go_wp2_with fail
  refine (size_any w3 wb.heap.size m2 HM3.out).mono ?_
  rintro e w4 ⟨rfl, nd, rfl⟩
  have HM4 := hid (show MxAt (w3.drewN nd) wb.heap.size m2 from HM3.out.block rfl)
  have HB4 := hid (show Below w.heap.size w (w3.drewN nd) from HB3.out.trans ⟨rfl, rfl, rfl, Nat.le_refl _, fun _ _ => rfl⟩)
  go_wp2
  go_loopw [47] (fun i wr => ∃ x : Nat, x ≤ m2.r ∧ i = .int .i64 x ∧ MxAt wr wb.heap.size m2 ∧ Below w.heap.size w wr) (fun i _ => m2.r - (intOf i).toNat)
  case atStart => exact ⟨0, Nat.zero_le _, rfl, HM4.out, HB4.out⟩
  case round =>
    obtain ⟨x, hx, rfl, hm, hB⟩ := hrel
    have HM := hid hm
    have HB := hid hB
    clear hm hB
    by_cases hlt : x < m2.r
    · have hxi : (x : Int) < (m2.r : Int) := by omega
      go_wp2
      go_loopw [51] (fun i wr => ∃ y : Nat, y ≤ x ∧ i = .int .i64 y ∧ MxAt wr wb.heap.size m2 ∧ Below w.heap.size w wr) (fun i _ => x - (intOf i).toNat)
      case atStart => exact ⟨0, Nat.zero_le _, rfl, HM.out, HB.out⟩
      case round =>
        obtain ⟨y, hy, rfl, hm, hB⟩ := hrel
        have HM5 := hid hm
        have HB5 := hid hB
        have hs5 := hB.size
        clear hm hB
        by_cases hyx : y < x
        · have hyi : (y : Int) < (x : Int) := by omega
          have hyr : y < m2.r := by omega
          obtain ⟨wq, hwq⟩ : ∃ wq, wq = wr := ⟨_, rfl⟩
          subst hwq
          have HP := hid (row_any wq wb.heap.size x m2 HM5.out hlt)
          by_cases hrx : m2.row x = []
          · have HRX := hid hrx
            clear hrx
            go_wp2_with (first
              | (go_at_call 37; refine HP.out.mono ?_; rintro e w6 ⟨v6, rfl, hv6, -, hb6⟩; rw [HRX.out] at hv6; obtain ⟨a6, c6, rfl⟩ := none_slice hv6; have HM6 := hid (HM5.out.below hb6 HM5.out.lt); have HB6 := hid (HB5.out.trans (hb6.mono hs5)); clear hv6 hb6)
              | fail)
            go_roundw
            case rel => exact ⟨y + 1, hyx, by go_num, HM6.out, HB6.out⟩
            case measure => simp [intOf]; omega
          · have HOVX := hid (HOV.out y x hyx hlt hrx)
            have hlx : ((m2.row x).length : Int) ≠ 0 := by
              intro h
              exact hrx (List.eq_nil_of_length_eq_zero (by omega))
            have hlx2 : (((m2.row x).length : Int) == 0) = false := by rw [beq_eq_false_iff_ne]; exact hlx
            have HLX := hid hlx2
            have hry : m2.row y ≠ [] := by
              obtain ⟨k, hk, h1, _⟩ := HOVX.out
              intro h
              exact h1 (row_none.1 h k hk)
            have hly : ((m2.row y).length : Int) ≠ 0 := by
              intro h
              exact hry (List.eq_nil_of_length_eq_zero (by omega))
            have hly2 : (((m2.row y).length : Int) == 0) = false := by rw [beq_eq_false_iff_ne]; exact hly
            have HLY := hid hly2
            clear hrx hry hlx hly hlx2 hly2
            have HPY := hid (fun w6 (h : MxAt w6 wb.heap.size m2) => row_any w6 wb.heap.size y m2 h hyr)
            go_wp2_with (first
              | (go_at_call 37; (with_reducible refine HP.out.mono ?_); rintro e w6 ⟨v6, rfl, hv6, -, hb6⟩; obtain ⟨a6, c6, rfl, hd1, hd2⟩ := owns_slice hv6; have HM6 := hid (HM5.out.below hb6 HM5.out.lt); have HB6 := hid (HB5.out.trans (hb6.mono hs5)); have hs6 := hb6.size; have hl6 := HLX.out; generalize (m2.row x).length = lx at *; clear hv6 hb6)
              | (go_at_call 37; (with_reducible refine (HPY.out w6 HM6.out).mono ?_); rintro e w7 ⟨v7, rfl, hv7, -, hb7⟩; obtain ⟨a7, c7, rfl, hd3, hd4⟩ := owns_slice hv7; have HM7 := hid (HM6.out.below hb7 HM6.out.lt); have HB7 := hid (HB6.out.trans (hb7.mono (by omega))); have hl7 := HLY.out; generalize (m2.row y).length = ly at *; clear hv7 hb7)
              | fail)
            obtain ⟨wz, hwz⟩ : ∃ wz, wz = w7 := ⟨_, rfl⟩
            subst hwz
            go_loop [17, 67] (fun ap k => ∃ q : Nat, q ≤ m2.n ∧ k = .int .i64 q ∧ ∃ b : Bool, ap = .bool b ∧ (b = true → ∀ p, p < q → m2.c (16 * x + p) = 0 ∨ m2.c (16 * y + p) = 0)) (fun _ k => m2.n - (intOf k).toNat)
            case atStart => exact ⟨0, Nat.zero_le _, rfl, true, rfl, fun _ p hp => absurd hp (by omega)⟩
            case round =>
              obtain ⟨q, hq, rfl, b, rfl, hall⟩ := hrel
              have HALL := hid hall
              clear hall
              by_cases hql : q < m2.n
              · have hqi : (q : Int) < (m2.n : Int) := by omega
                have HPA := hid (at_yes wz wb.heap.size m2 x q HM7.out hlt hql)
                have HPB := hid (at_yes wz wb.heap.size m2 y q HM7.out hyr hql)
                cases b with
                | false =>
                  go_wp2_with fail
                  go_round
                  case rel => exact ⟨q + 1, hql, by go_num, false, rfl, fun h => by cases h⟩
                  case measure => simp [intOf]; omega
                | true =>
                  by_cases h1 : m2.c (16 * x + q) = 0
                  · have HN := hid (show ∀ p, p < q + 1 → m2.c (16 * x + p) = 0 ∨ m2.c (16 * y + p) = 0 from fun p hp => by
                      by_cases e : p = q
                      · rw [e]; exact .inl h1
                      · exact HALL.out rfl p (by omega))
                    have H1 := hid h1
                    clear h1
                    go_wp2_with (first
                      | (go_at_call 38; (with_reducible refine HPA.out.mono ?_); rintro e w8 ⟨rfl, rfl⟩; rw [H1.out])
                      | fail)
                    go_round
                    case rel => exact ⟨q + 1, hql, by go_num, true, rfl, fun _ => HN.out⟩
                    case measure => simp [intOf]; omega
                  · obtain ⟨c1, hc1⟩ : ∃ c1, m2.c (16 * x + q) = c1 + 1 := ⟨m2.c (16 * x + q) - 1, by omega⟩
                    have HC1 := hid hc1
                    have hz1 : ((((c1 : Nat) : Int) + 1) == 0) = false := by simp; omega
                    clear h1 hc1
                    by_cases h2 : m2.c (16 * y + q) = 0
                    · have HN := hid (show ∀ p, p < q + 1 → m2.c (16 * x + p) = 0 ∨ m2.c (16 * y + p) = 0 from fun p hp => by
                        by_cases e : p = q
                        · rw [e]; exact .inr h2
                        · exact HALL.out rfl p (by omega))
                      have H2 := hid h2
                      clear h2
                      go_wp2_with (first
                        | (go_at_call 38; (with_reducible refine HPA.out.mono ?_); rintro e w8 ⟨rfl, rfl⟩; rw [HC1.out])
                        | (go_at_call 38; (with_reducible refine HPB.out.mono ?_); rintro e w8 ⟨rfl, rfl⟩; rw [H2.out])
                        | fail)
                      go_round
                      case rel => exact ⟨q + 1, hql, by go_num, true, rfl, fun _ => HN.out⟩
                      case measure => simp [intOf]; omega
                    · obtain ⟨c2, hc2⟩ : ∃ c2, m2.c (16 * y + q) = c2 + 1 := ⟨m2.c (16 * y + q) - 1, by omega⟩
                      have HC2 := hid hc2
                      have hz2 : ((((c2 : Nat) : Int) + 1) == 0) = false := by simp; omega
                      clear h2 hc2
                      go_wp2_with (first
                        | (go_at_call 38; (with_reducible refine HPA.out.mono ?_); rintro e w8 ⟨rfl, rfl⟩; rw [HC1.out])
                        | (go_at_call 38; (with_reducible refine HPB.out.mono ?_); rintro e w8 ⟨rfl, rfl⟩; rw [HC2.out])
                        | fail)
                      go_round
                      case rel => exact ⟨q + 1, hql, by go_num, false, rfl, fun h => by cases h⟩
                      case measure => simp [intOf]; omega
              · have hqi : ¬ (q : Int) < (m2.n : Int) := by omega
                have hbf : b = false := by
                  cases b with
                  | false => rfl
                  | true =>
                    exfalso
                    obtain ⟨k, hk, h1, h2⟩ := HOVX.out
                    rcases HALL.out rfl k (by omega) with h | h
                    · exact h2 h
                    · exact h1 h
                subst hbf
                clear hql
                go_wp2
                go_roundw
                case rel => exact ⟨y + 1, hyx, by go_num, HM7.out, HB7.out⟩
                case measure => simp [intOf]; omega
        · have hyi : ¬ (y : Int) < (x : Int) := by omega
          clear hyx
          go_wp2
          go_roundw
          case rel => exact ⟨x + 1, hlt, by go_num, HM5.out, HB5.out⟩
          case measure => simp [intOf]; omega
    · have hxi : ¬ (x : Int) < (m2.r : Int) := by omega
      clear hlt
      go_wp2
      go_ret
      exact ⟨rfl, HB.out⟩

/-! ### THE ROW's STEP -/
set_option maxRecDepth 100000 in
theorem lifted (os : Os) (started : os.Started) (H : Type) (enc : TypeId × Value → H) :
    ReturnsInHanded {} Try.checked os 8 .any (Rows.shuffleFullSpec.pre6 enc Try.prog Try.f8 Rows.shuffleFullRow.domain false) (Rows.shuffleFullSpec.post enc Try.prog Try.f8 false true false false) := by
  refine returnsInHanded_of_change (C := Try.checked) own started (by kernel_rfl) Try.func8
    (ChangeSpec.witness6 (enc := enc) (C := Try.checked) false ⟨#[], #[.int .u8 0, .int .u8 0, .slice none 0 0], []⟩ 8 (by kernel_rfl) (by kernel_rfl) (by kernel_rfl) (by kernel_rfl)) ?_
  intro W base args ds gs before hval0 hW hcnd _
  have hval : ∀ (j : Nat) t v, Try.f8.params[j]? = some t → args[j]? = some v → Value.okWide Try.prog W .any base t v := hval0
  have hW' := hW
  obtain ⟨p, q, hA0, hV, rfl, hfz, hnd⟩ := hW
  have hA : DataW.TrodAll enc Try.prog W 0 (fun _ => true) true Try.f8.params.toList args.toList ds p := hA0
  rw [Try.params8] at hA hval
  obtain ⟨v0, vs0, d0, ds0, p0, q0, hargs, rfl, rfl, h0, r0⟩ := trodAll_cons hA
  obtain ⟨v1, vs1, d1, ds1, p1, q1, rfl, rfl, rfl, h1, r1⟩ := trodAll_cons r0
  obtain ⟨v2, vs2, d2, ds2, p2, q2, rfl, rfl, rfl, h2, r2⟩ := trodAll_cons r1
  obtain ⟨rfl, rfl, rfl⟩ := trodAll_nil r2
  obtain rfl : args = #[v0, v1, v2] := by cases args; simp_all
  obtain ⟨rfl, rfl⟩ := trodVars_none hV
  have k0 := h0
  have lt0 : ∀ x ∈ p0, x.block < W.heap.size := by obtain ⟨m, hm⟩ := k0; exact DataW.trod_lt m _ _ _ hm
  have k1 := h1
  have lt1 : ∀ x ∈ p1, x.block < W.heap.size := by obtain ⟨m, hm⟩ := k1; exact DataW.trod_lt m _ _ _ hm
  have k2 := h2
  have lt2 : ∀ x ∈ p2, x.block < W.heap.size := by obtain ⟨m, hm⟩ := k2; exact DataW.trod_lt m _ _ _ hm
  obtain ⟨a0, rfl, rfl, rfl, w0⟩ := open_int Try.underlying5 (hval 0 5 v0 rfl rfl) h0
  obtain ⟨a1, rfl, rfl, rfl, w1⟩ := open_int Try.underlying5 (hval 1 5 v1 rfl rfl) h1
  obtain ⟨a2, len2, cap2, rfl⟩ := okWide_slice Try.underlying54 (hval 2 54 v2 rfl rfl)
  have w2 : IsStands W a2 len2 cap2 := isStands_of h2
  clear hA0 hval0
  refine (walk a0 a1 a2 len2 cap2 W w0 w1 w2).mono fun e W' ⟨he, bel⟩ => ?_
  subst he
  exact ⟨_, rfl, _, _, _, [], _, [], hW', trodAll_mk1 (shut_bool Try.underlying4 _), (trodAll_cons_mk (Below.trod laidOut (by kernel_rfl) (of_decide_eq_true (by kernel_rfl)) k0 bel lt0) (trodAll_cons_mk (Below.trod laidOut (by kernel_rfl) (of_decide_eq_true (by kernel_rfl)) k1 bel lt1) (trodAll_cons_mk (Below.trod laidOut (by kernel_rfl) (of_decide_eq_true (by kernel_rfl)) k2 bel lt2) trodAll_mk0))), rfl, bel.frame _, fun h => by cases h⟩

theorem over : Rows.shuffleFullRow.holds Try.pinned (OpenSpec.ofChange Rows.shuffleFullSpec) :=
  OpenClaim.holds_of_wide 8 Try.f8 rfl rfl rfl rfl rfl rfl rfl ⟨rfl, rfl, rfl, rfl, rfl⟩ rfl rfl rfl rfl rfl (by kernel_rfl) Try.func8 (by kernel_rfl)
    (of_decide_eq_true (by kernel_rfl)) (by unfold Func.isWrapper; first | (rw [if_pos (by decide +kernel)]; kernel_rfl) | (rw [if_neg (by decide +kernel)]; exact ⟨rfl, rfl⟩))
    (fun os started H enc _ => lifted os started H enc)

/-- THE STATEMENT -/
theorem shuffleFull_holds : Rows.ShuffleFullSaid := over
#print axioms shuffleFull_holds
end Go.Proofs.Ytnffmijanikjgaa.shuffleFull
