/-
  Contracts of plan: Now, Delays.
-/
import Derived.Test.YtecojmpiaaehlaaPlS
namespace Go.Proofs.Ytecojmpiaaehlaa
open Go.RowKit Go.Shelf
set_option linter.unusedVariables false

/-- It starts at once. -/
def nw (s : Found) : Bool := s.isSome && stA s == 0
def nowTo (S : List Found) (n : Nat) : List Nat := (List.range n).filter fun i => nw (S.getD i none)
def nowL (S : List Found) : List Nat := nowTo S S.length
theorem nowTo_succ (S : List Found) (n : Nat) : nowTo S (n + 1) = if nw (S.getD n none) then nowTo S n ++ [n] else nowTo S n := by
  unfold nowTo
  rw [List.range_succ, List.filter_append]
  cases h : nw (S.getD n none) with
  | true => simp only [List.filter_cons, h, List.filter_nil, if_true]
  | false =>
    rw [List.filter_cons_of_neg (by rw [h]; simp)]
    simp
theorem nowTo_le (S : List Found) (n : Nat) : (nowTo S n).length ≤ n := by
  unfold nowTo
  exact Nat.le_trans (List.length_filter_le _ _) (by simp)
theorem planL_len (p : List (List Nat)) (L : List (Int × Int)) : (planL p L).length = L.length := by simp [planL]
theorem planL_at {p : List (List Nat)} {L : List (Int × Int)} {j : Nat} (h : j < L.length) : (planL p L)[j]? = some (planAt p L j) := by
  unfold planL
  rw [List.getElem?_map, List.getElem?_range h]
  rfl
theorem planL_getD {p : List (List Nat)} {L : List (Int × Int)} {j : Nat} (h : j < L.length) : (planL p L).getD j none = planAt p L j := by
  rw [List.getD_eq_getElem?_getD, planL_at h]; rfl

set_option maxRecDepth 100000 in
set_option maxHeartbeats 4000000 in
theorem now_any (w : World) (v va : Value) (P : List (List Int)) (L : List (Int × Int)) (h : RdP w v P) (hl : P.length ≤ 1000) (hrl : ∀ r ∈ P, r.length ≤ 1000) (ha : RdA w va L) (hL : L.length ≤ 1000) :
    Calls Try.prog 23 #[v, va] w fun e w' => ∃ u, e = .returned u ∧ w'.ownsRow w.heap.size 3 1 u (nowL (planL (bndP P) L)).length ((nowL (planL (bndP P) L)).map iv) ∧ Below w.heap.size w w' := by
  obtain ⟨a, c, rfl, hc1, hc2⟩ := h.len
  obtain ⟨aa, ac, rfl, hac1, hac2⟩ := ha.len
  have HC := hid (plan_any w _ _ P L h hl hrl ha hL)
  clear h ha
  have hSl : (planL (bndP P) L).length = L.length := planL_len _ _
  generalize planL (bndP P) L = S at *
  go_enter Try.func23, Try.ntmps23
  go_wp2_with fail
  refine HC.out.mono ?_
  rintro e w1 ⟨u, rfl, hs, hb1⟩
  obtain ⟨ua, uc, rfl, hu1, hu2⟩ := hs.len
  have HS := hid hs
  have HB1 := hid hb1
  have hs1 := hb1.size
  have hSL : S.length ≤ 1000 := by omega
  clear hs hb1
  go_wp2_with fail
  go_loopw [5, 12] (fun nv i wr => ∃ k : Nat, k ≤ S.length ∧ i = .int .i64 k ∧ wr.ownsRow w1.heap.size 3 1 nv (nowTo S k).length ((nowTo S k).map iv) ∧ Below w1.heap.size w1 wr) (fun _ i _ => S.length - (intOf i).toNat)
  case atStart => exact ⟨0, Nat.zero_le _, rfl, World.ownsRow_nil _ _ _ _, Below.refl _ _⟩
  case round =>
    obtain ⟨k, hk, rfl, hv, hB⟩ := hrel
    have HV := hid hv
    have HB := hid hB
    have hsz := hB.size
    have hol := nowTo_le S k
    obtain ⟨av, cv, rfl, hcv1, hcv2⟩ := owns_slice hv
    clear hv
    by_cases hlt : k < S.length
    · obtain ⟨s, hx⟩ : ∃ s, S[k]? = some s := ⟨_, List.getElem?_eq_getElem hlt⟩
      obtain ⟨b, rfl, hbl, hbb, hst⟩ := (HS.out.below hB).at k s hx
      obtain ⟨u, hr, ho⟩ := hst
      obtain ⟨xa, xc, rfl, hx1, hx2⟩ := owns_slice ho
      have hki : (k : Int) < (S.length : Int) := by omega
      have hgd : S.getD k none = s := by rw [List.getD_eq_getElem?_getD, hx]; rfl
      have HSU := hid (nowTo_succ S k)
      rw [hgd] at HSU
      have HR := hid hr
      have hnw : nw s = (s.isSome && stA s == 0) := rfl
      clear hr ho hx hgd hB
      generalize hfn : (stN s).length = fn at *
      generalize stA s = A at *
      generalize stR s = R at *
      generalize s.isSome = ok at *
      have HNW := hid hnw
      clear hnw hfn
      cases ok with
      | false =>
        have HM := hid (show nowTo S (k + 1) = nowTo S k by rw [HSU.out, HNW.out]; rfl)
        go_wp2_with (first
          | (refine wpList_load_mid rfl 32 (.tmp 15) rfl b (k * 4) rfl _ _ HR.out Try.underlying32 rfl info_start ?_)
          | (refine st_fresh rfl 32 (.tmp 7) (.tmp 16) rfl 4 info_start wr _ #[.int .i64 (A : Nat), .int .i64 (R : Nat), .slice xa fn xc, .bool false] rfl rfl rfl rfl (by simp [Value.oneCell']) ?_; intro w3 g3 b3 s3; have HB3 := hid b3; have k0 : w3.cell? ⟨wr.heap.size, 0, none⟩ = some (.int .i64 (A : Nat)) := (cell_of_row _ _ _ _ _ _ g3).trans rfl; have k3 : w3.cell? ⟨wr.heap.size, 3, none⟩ = some (.bool false) := (cell_of_row _ _ _ _ _ _ g3).trans rfl; clear g3 b3)
          | fail)
        go_roundw
        case rel => exact ⟨k + 1, hlt, by go_num, by rw [HM.out]; exact owns_below HV.out HB3.out, HB.out.trans (HB3.out.mono hsz)⟩
        case measure => simp [intOf]; omega
      | true =>
        by_cases h0 : A = 0
        · subst h0
          have HM := hid (show nowTo S (k + 1) = nowTo S k ++ [k] by rw [HSU.out, HNW.out]; rfl)
          go_wp2_with (first
          | (refine wpList_load_mid rfl 32 (.tmp 15) rfl b (k * 4) rfl _ _ HR.out Try.underlying32 rfl info_start ?_)
          | (refine st_fresh rfl 32 (.tmp 7) (.tmp 16) rfl 4 info_start wr _ #[.int .i64 (0 : Nat), .int .i64 (R : Nat), .slice xa fn xc, .bool true] rfl rfl rfl rfl (by simp [Value.oneCell']) ?_; intro w3 g3 b3 s3; have HB3 := hid b3; have k0 : w3.cell? ⟨wr.heap.size, 0, none⟩ = some (.int .i64 (0 : Nat)) := (cell_of_row _ _ _ _ _ _ g3).trans rfl; have k3 : w3.cell? ⟨wr.heap.size, 3, none⟩ = some (.bool true) := (cell_of_row _ _ _ _ _ _ g3).trans rfl; have h31 := b3.size; clear g3 b3 s3; have hof := hid (owns_below (owns_below HV.out HB3.out) ((Below.refl _ _).alloc (Nat.le_refl _) (.cells #[.int .i64 (k : Nat)] 3))); have hsrc := hid (SrcC.lit w3 #[.int .i64 (k : Nat)] 3 1 [iv k] rfl); generalize hol' : (nowTo S k).length = ol at *; have HOL := hid hol'; clear hol')
          | (at_builtin; (refine appsw (by rfl) 25 3 (.tmp 24) (.tmp 26) rfl w1.heap.size 1 8 _ Try.underlying25 Try.infoInt rfl (by decide) _ _ ol 1 (ol + 1) _ _ rfl rfl hof.out hsrc.out rfl (by intro y hy; rw [List.mem_singleton] at hy; subst hy; rfl) rfl (by omega) (by omega) (by simp; omega) ?_); intro ad9 cp9 wA hoA hgA; have HOA := hid hoA; have HGA := hid hgA; clear hoA hgA)
          | fail)
          have hbA : Below w1.heap.size w1 wA := ((HB.out.trans (HB3.out.mono hsz)).alloc (by omega) (.cells #[.int .i64 (k : Nat)] 3)).grown HGA.out (by simp; omega) (fun g hg => (World.ownsRow.lt HV.out g hg).1)
          have HBA := hid hbA
          clear hbA
          go_wp2
          go_roundw
          case rel => exact ⟨k + 1, hlt, by go_num, by rw [HM.out, List.length_append, HOL.out, List.map_append]; exact HOA.out, HBA.out⟩
          case measure => simp [intOf]; omega
        · have d1 : ((A : Int) == 0) = false := by simp; omega
          have d2 : decide (A = 0) = false := by simpa using h0
          have d3 : (A == 0) = false := by simpa using h0
          have HM := hid (show nowTo S (k + 1) = nowTo S k by rw [HSU.out, HNW.out, d3]; rfl)
          clear h0
          go_wp2_with (first
          | (refine wpList_load_mid rfl 32 (.tmp 15) rfl b (k * 4) rfl _ _ HR.out Try.underlying32 rfl info_start ?_)
          | (refine st_fresh rfl 32 (.tmp 7) (.tmp 16) rfl 4 info_start wr _ #[.int .i64 (A : Nat), .int .i64 (R : Nat), .slice xa fn xc, .bool true] rfl rfl rfl rfl (by simp [Value.oneCell']) ?_; intro w3 g3 b3 s3; have HB3 := hid b3; have k0 : w3.cell? ⟨wr.heap.size, 0, none⟩ = some (.int .i64 (A : Nat)) := (cell_of_row _ _ _ _ _ _ g3).trans rfl; have k3 : w3.cell? ⟨wr.heap.size, 3, none⟩ = some (.bool true) := (cell_of_row _ _ _ _ _ _ g3).trans rfl; clear g3 b3)
          | fail)
          go_roundw
          case rel => exact ⟨k + 1, hlt, by go_num, by rw [HM.out]; exact owns_below HV.out HB3.out, HB.out.trans (HB3.out.mono hsz)⟩
          case measure => simp [intOf]; omega
    · have e : k = S.length := by omega
      have HE := hid (show nowTo S k = nowL S by rw [e]; rfl)
      have hki : ¬ (k : Int) < (S.length : Int) := by omega
      clear hlt e hB
      go_wp2
      go_ret
      exact ⟨_, rfl, by rw [← HE.out]; exact owns_base HV.out hs1, HB1.out.trans (HB.out.mono hs1)⟩

end Go.Proofs.Ytecojmpiaaehlaa
