/-
  So long a text and no longer: quadrillelaw02.KnotLimits returns true for every input, without any condition.
  (The frame behind the walk is the guide's shell.)
-/
import Derived.Test.YtoglhleljknhcaaRows
import Derived.WalkKit
import Derived.Test.YtoglhleljknhcaaTurn
import Derived.Test.YtoglhleljknhcaaTie
import Derived.Test.YtoglhleljknhcaaSame
import Derived.ProofKit
import Derived.OpenShut
import Derived.ShutString
namespace Go.Proofs.Ytoglhleljknhcaa.knotLimits
open Go.ChangeShapes Go.WideShapes Go.ChangeAt Go.RowKit
open Go.ChangeMaps (open_string shut_string)
set_option linter.unusedVariables false      -- a walk need not use every 'w<i>' (that an integer argument fits its kind)

theorem own : ownKnob Try.prog.godebug = none := by kernel_rfl

/-- j bytes b, and noughts behind them: what the loop has written. -/
def filled (n j : Nat) (b : UInt8) : List UInt8 := List.replicate j b ++ List.replicate (n - j) 0

theorem filled_length (n j : Nat) (b : UInt8) (h : j ≤ n) : (filled n j b).length = n := by unfold filled; simp; omega
theorem filled_zero (n : Nat) (b : UInt8) : filled n 0 b = zeros n := by unfold filled zeros; simp
theorem filled_step (n j : Nat) (b : UInt8) (h : j < n) : (filled n j b).set j b = filled n (j + 1) b := by
  unfold filled
  apply List.ext_getElem?
  intro i
  by_cases hij : i = j
  · subst hij
    simp [List.getElem?_append, show i < i + (n - i) by omega]
  · rw [List.getElem?_set_ne (fun e => hij e.symm)]
    simp only [List.getElem?_append, List.length_replicate, List.getElem?_replicate]
    by_cases h1 : i < j
    · simp [h1, show i < j + 1 by omega]
    · have h2 : ¬ i < j + 1 := by omega
      simp only [h1, h2, if_false]
      by_cases h3 : i < n
      · simp [show i - j < n - j by omega, show i - (j + 1) < n - (j + 1) by omega]
      · simp [show ¬ i - j < n - j by omega, show ¬ i - (j + 1) < n - (j + 1) by omega]

theorem uerr_long (n : Nat) (r : List UInt8) (h1 : 2048 < n) (h2 : n ≤ 2050) : Knot.uerr (Knot.head n ++ r) = 3 := by
  have hs : Knot.size (Knot.head n ++ r) = n := by
    unfold Knot.size Knot.head
    simp
    omega
  have he : Knot.err (Knot.head n ++ r) = 3 := by
    unfold Knot.err
    rw [if_neg (by unfold Knot.head; simp), hs, if_pos h1]
  unfold Knot.uerr
  rw [he]; rfl

/-- A new block of given bytes, its number written as it stands. -/
theorem lit_at (w : World) (a : Nat) (ha : a = w.heap.size) (cs : Array Value) (fr : Nat × Nat) (l : List UInt8) (k : Nat) (hk : k = l.length) (h : cs.toList = l.map bv) (hm : l.length ≤ maxLen) : Rd (w.alloc (.cells cs 5 fr)) (.slice (some ⟨a, 0, none⟩) k k) l := by
  subst ha
  exact Rd.lit w cs fr l k hk h hm

set_option maxRecDepth 100000 in
set_option maxHeartbeats 1000000 in
theorem walk (a0 : Int) (a1 : Int) (w0 : (Lit.int .u8 a0).wf = true) (w1 : (Lit.int .u8 a1).wf = true) (w : World) :
    Calls Try.prog 14 #[.int .u8 a0, .int .u8 a1] w fun e w' => e = .returned (.bool true) ∧ Below w.heap.size w w' := by
  obtain ⟨q, rfl⟩ := Int.eq_ofNat_of_zero_le (show 0 ≤ a0 by have := bounds_u8 w0; omega)
  obtain ⟨c, rfl⟩ := Int.eq_ofNat_of_zero_le (show 0 ≤ a1 by have := bounds_u8 w1; omega)
  have hq : q < 256 := by have := bounds_u8 w0; omega
  have hc : c < 256 := by have := bounds_u8 w1; omega
  obtain ⟨b, hb⟩ : ∃ b : UInt8, (c : Int) = (b.toNat : Int) := ⟨UInt8.ofNat c, by simp; omega⟩
  obtain ⟨K, hK⟩ : ∃ K : Nat, (2046 : Int) + (q : Int) % 5 = (K : Int) := ⟨2046 + q % 5, by omega⟩
  have hK1 : 2046 ≤ K := by omega
  have hK2 : K ≤ 2050 := by omega
  rw [hb]
  clear hb hc w0 w1 c
  go_enter Try.func14, Try.ntmps14
  go_wp2_with fail
  refine (awake2_any w).mono ?_
  rintro e w1 ⟨rfl, hb1⟩
  go_wp2_with (at_make; go_must (refine mkfull rfl (.tmp 20) (.tmp 20) rfl w.heap.size _ _ _ _ K rfl rfl rfl rfl (by omega) hb1.size ?_); intro w2 hown2 hb2)
  have hbw : Below w.heap.size w w2 := hb1.trans (hb2.mono hb1.size)
  obtain ⟨g, hg⟩ : ∃ g, g = w1.heap.size := ⟨_, rfl⟩
  have hg0 : w.heap.size ≤ g := by rw [hg]; exact hb1.size
  rw [← hg] at hown2 ⊢
  rw [← filled_zero K b] at hown2
  clear hb1 hb2 hg hK
  go_loopw [24] (fun i wr => ∃ j : Nat, j ≤ K ∧ i = .int .i64 j ∧ Own wr w.heap.size (.slice (some ⟨g, 0, none⟩) K K) (filled K j b) ∧ Below w.heap.size w wr) (fun i _ => K - (intOf i).toNat)
  case atStart => exact ⟨0, by omega, rfl, hown2, hbw⟩
  case round =>
    obtain ⟨j, hj, rfl, hown, hb⟩ := hrel
    clear hown2 hbw
    by_cases hlt : j < K
    · have hfz := hown.frozen j
      have hcell := hown.cell j (by rw [filled_length _ _ _ hj]; exact hlt)
      obtain ⟨x, hx⟩ : ∃ x, x = (filled K j b).getD j 0 := ⟨_, rfl⟩
      rw [← hx, bv_eq] at hcell
      clear hx
      go_wp2
      refine ⟨⟨j + 1, by omega, by go_num, ?_, hb.setCell (p := ⟨g, j, none⟩) hg0 _⟩, by simp [intOf]; omega⟩
      rw [← filled_step K j b hlt]
      exact hown.stored j b _ rfl
    · obtain rfl : j = K := by omega
      have hfl := hid (filled_length j j b (Nat.le_refl _))
      obtain ⟨T, hT⟩ : ∃ T, T = filled j j b := ⟨_, rfl⟩
      rw [← hT] at hown hfl
      clear hT
      by_cases hbig : 2048 < j
      · go_wp2_with fail
        refine (tie_long _ T _ hown.rd (by rw [hfl.out]; exact hbig)).mono ?_
        rintro e w4 ⟨rfl, rfl⟩
        have hglt : g < wr.heap.size := (hown.lt g rfl).2
        have hu := hid (uerr_long j (T ++ [0, 0, 0, 0]) hbig hK2)
        have hhl := hid (show (Knot.head j).length = 2 from rfl)
        have hO1 : Own (wr.alloc (.cells #[.int .u8 ((j : Int) % 256), .int .u8 ((j : Int) / 256)] 5)) w.heap.size (.slice (some ⟨wr.heap.size, 0, none⟩) 2 2) (Knot.head j) :=
          Own.lit wr w.heap.size _ _ 2 rfl (by unfold Knot.head bv; simp; omega) (by rw [hhl.out]; unfold maxLen; omega) hb.size
        have HO1 := hid hO1
        clear hO1
        go_wp2_with (first
          | (at_builtin; refine appk rfl (.tmp 46) (.tmp 47) rfl w.heap.size (.slice (some ⟨g, 0, none⟩) j j) _ T [0, 0, 0, 0] (T ++ [0, 0, 0, 0]) (j + 4) rfl rfl ((hown.alloc _).alloc _) (lit_at _ _ (by simp) _ (0, 0) [0, 0, 0, 0] 4 rfl rfl (by decide)) (by rw [hfl.out]; rfl) rfl (by rw [hfl.out]; simp; omega) (by have := hb.size; simp; omega) ?_; intro ad3 cp3 w3 hown3 hgrow3; have hb3 : Below w.heap.size w w3 := ((hown.alloc _).alloc _).grown ((hb.alloc hb.size _).alloc (by have := hb.size; simp; omega) _) hgrow3 (Nat.le_refl _) (by have := hb.size; simp; omega); have hO3 := hid ((HO1.out.alloc _).keeps (Keeps.of_grown hgrow3) (fun k hk e => by simp [Value.ownBlock] at hk e; omega)); clear hgrow3 hown)
          | (at_builtin; go_must (refine appk rfl (.tmp 45) (.tmp 48) rfl w.heap.size (.slice (some ⟨wr.heap.size, 0, none⟩) 2 2) _ (Knot.head j) (T ++ [0, 0, 0, 0]) (Knot.head j ++ (T ++ [0, 0, 0, 0])) (j + 6) rfl rfl hO3.out hown3.rd (by rw [List.length_append, hfl.out, hhl.out]; simp; omega) rfl (by rw [List.length_append, hfl.out, hhl.out]; simp; omega) hb3.size ?_); intro ad4 cp4 w4 hown4 hgrow4; have hb4 : Below w.heap.size w w4 := hO3.out.grown hb3 hgrow4 (Nat.le_refl _) hb3.size; clear hgrow4)
          | (go_at_call 44; go_must (refine (untie_any _ _ _ hown4.rd (by rw [List.length_append, List.length_append, hfl.out, hhl.out]; simp; omega)).mono ?_); rintro e w5 ⟨uv, rfl, _, hb5⟩; rw [hu.out]))
        go_ret
        exact ⟨rfl, hb4.trans (hb5.mono hb4.size)⟩
      · go_wp2_with fail
        refine (tie_any _ T _ hown.rd (by rw [hfl.out]; omega)).mono ?_
        rintro e w4 ⟨kv, rfl, hown4, hb4⟩
        have hu1 := hid (Knot.uerr_knot T (by rw [hfl.out]; omega))
        have hu2 := hid (Knot.utext_knot T (by rw [hfl.out]; omega))
        have hlen := hid (Knot.knot_length T)
        go_wp2_with fail
        refine (untie_any _ (Knot.knot T) _ hown4.rd (by rw [hlen.out, hfl.out]; omega)).mono ?_
        rintro e w5 ⟨uv, rfl, hown5, hb5⟩
        rw [hu1.out]
        rw [hu2.out] at hown5
        go_wp2_with fail
        refine (same_any _ _ T T _ hown5.rd ((hown.below hb4).below hb5).rd).mono ?_
        rintro e w6 ⟨rfl, rfl⟩
        go_wp2
        go_ret
        exact ⟨by simp, hb.trans ((hb4.trans (hb5.mono hb4.size)).mono hb.size)⟩

/-! ### THE ROW's STEP: WRITTEN OUT: LEAVE IT -/
set_option maxRecDepth 100000 in
theorem lifted (os : Os) (started : os.Started) (H : Type) (enc : TypeId × Value → H) :
    ReturnsInHanded {} Try.checked os 14 .any (Rows.knotLimitsSpec.pre6 enc Try.prog Try.f14 Rows.knotLimitsRow.domain false) (Rows.knotLimitsSpec.post enc Try.prog Try.f14 false true false false) := by
  refine returnsInHanded_of_change (C := Try.checked) own started (by kernel_rfl) Try.func14
    (ChangeSpec.witness6 (enc := enc) (C := Try.checked) false ⟨#[], #[.int .u8 0, .int .u8 0], []⟩ 8 (by kernel_rfl) (by kernel_rfl) (by kernel_rfl) (by kernel_rfl)) ?_
  intro W base args ds gs before hval0 hW hcnd _
  have hval : ∀ (j : Nat) t v, Try.f14.params[j]? = some t → args[j]? = some v → Value.okWide Try.prog W .any base t v := hval0
  have hW' := hW
  obtain ⟨p, q, hA0, hV, rfl, hfz, hnd⟩ := hW
  have hA : DataW.TrodAll enc Try.prog W 0 (fun _ => true) true Try.f14.params.toList args.toList ds p := hA0
  rw [Try.params14] at hA hval
  obtain ⟨v0, vs0, d0, ds0, p0, q0, hargs, rfl, rfl, h0, r0⟩ := trodAll_cons hA
  obtain ⟨v1, vs1, d1, ds1, p1, q1, rfl, rfl, rfl, h1, r1⟩ := trodAll_cons r0
  obtain ⟨rfl, rfl, rfl⟩ := trodAll_nil r1
  obtain rfl : args = #[v0, v1] := by cases args; simp_all
  obtain ⟨rfl, rfl⟩ := trodVars_none hV
  obtain ⟨a0, rfl, rfl, rfl, w0⟩ := open_int Try.underlying5 (hval 0 5 v0 rfl rfl) h0
  obtain ⟨a1, rfl, rfl, rfl, w1⟩ := open_int Try.underlying5 (hval 1 5 v1 rfl rfl) h1
  clear hA0 hval0
  refine (walk a0 a1 w0 w1 W).mono fun e W' ⟨he, hg⟩ => ?_
  subst he
  exact ⟨_, rfl, _, _, _, [], _, [], hW', trodAll_mk1 (shut_bool Try.underlying4 _), (trodAll_cons_mk (shut_int Try.underlying5 w0) (trodAll_cons_mk (shut_int Try.underlying5 w1) trodAll_mk0)), rfl, hg.frame _, fun h => by cases h⟩

theorem over : Rows.knotLimitsRow.holds Try.pinned (OpenSpec.ofChange Rows.knotLimitsSpec) :=
  OpenClaim.holds_of_wide 14 Try.f14 rfl rfl rfl rfl rfl rfl rfl ⟨rfl, rfl, rfl, rfl, rfl⟩ rfl rfl rfl rfl rfl (by kernel_rfl) Try.func14 (by kernel_rfl)
    (of_decide_eq_true (by kernel_rfl)) (by unfold Func.isWrapper; first | (rw [if_pos (by decide +kernel)]; kernel_rfl) | (rw [if_neg (by decide +kernel)]; exact ⟨rfl, rfl⟩))
    (fun os started H enc _ => lifted os started H enc)

/-- ████ THE STATEMENT ████ -/
theorem knotLimits_holds : Rows.KnotLimitsSaid :=
  over
#print axioms knotLimits_holds
end Go.Proofs.Ytoglhleljknhcaa.knotLimits
