/-
  P14.1, P14.2: the whole plan is as the document tells it, and so is who may start now.
  (The frame behind the walk is the guide's shell, at these parameters.)
-/
import Derived.Test.YtecojmpiaaehlaaRows
import Derived.WalkKit
import Derived.Test.YtecojmpiaaehlaaRfS
import Derived.Test.YtecojmpiaaehlaaPlZ
import Derived.Test.YtecojmpiaaehlaaRfF
import Derived.ProofKit
import Derived.Deep.Cut
import Derived.Deep.CutRange
import Derived.Deep.CutBlock
import Derived.Deep.Grids
import Derived.OpenShut
import Derived.ShutString
import Derived.ChangeOld
import Derived.Below
namespace Go.Proofs.Ytecojmpiaaehlaa.planAll
open Go.ChangeShapes Go.WideShapes Go.ChangeAt Go.RowKit
open Go.ChangeMaps (open_string shut_string)
set_option linter.unusedVariables false

theorem own : ownKnob Try.prog.godebug = none := by kernel_rfl
theorem laidOut : laidOutB Try.prog = true := by kernel_rfl

theorem rda_take {w : World} {a : Option Addr} {n cap : Nat} {L : List (Int × Int)} (h : RdA w (.slice a n cap) L) {m : Nat} (hm : m ≤ L.length) : RdA w (.slice a m cap) (L.take m) := by
  obtain ⟨a', cap', e, h1, h2, h3⟩ := h
  simp only [Value.slice.injEq] at e
  obtain ⟨rfl, -, rfl⟩ := e
  have hl : (L.take m).length = m := by rw [List.length_take]; omega
  refine ⟨_, _, by rw [hl], by omega, h2, fun j x hj => ?_⟩
  rw [List.getElem?_take] at hj
  split at hj
  · exact h3 j x hj
  · cases hj
theorem found_len {p : List (List Nat)} {K : Int} {t r : Nat} {ns : List Nat} (h : first p K = some (t, r, ns)) : ns.length ≤ (p.getD r []).length := by
  obtain ⟨hr, k, -, hk, hT, hns⟩ := first_row h
  rw [hns]
  unfold sel selTo
  exact Nat.le_trans (List.length_filter_le _ _) (by simp)
theorem bnd_row {P : List (List Int)} (h : ∀ r ∈ P, r.length ≤ 20) (r : Nat) : ((bndP P).getD r []).length ≤ 20 := by
  rw [List.getD_eq_getElem?_getD]
  unfold bndP
  rw [List.getElem?_map]
  cases hr : P[r]? with
  | none => simp
  | some l => simpa [bndL] using h l (List.mem_of_getElem? hr)

theorem setI_len (l : List Nat) (ns : List Int) (e : Nat) : (setI l ns e).length = l.length := by
  unfold setI
  induction ns generalizing l with
  | nil => rfl
  | cons n ns ih => rw [List.foldl_cons, ih]; split <;> simp
theorem aft_rl (p : List (List Nat)) (a : Int × Int) (r : Nat) : ((aft p a).getD r []).length = (p.getD r []).length := by
  rw [aft_res]
  unfold resI
  split
  · rename_i h
    rw [List.getD_eq_getElem?_getD, List.getD_eq_getElem?_getD, List.getElem?_set]
    by_cases hr : (stR (first p a.1) : Int).toNat = r
    · subst hr
      rw [if_pos rfl, if_pos (by omega)]
      simp only [Option.getD_some, setI_len]
      rw [List.getD_eq_getElem?_getD]
    · rw [if_neg hr, List.getD_eq_getElem?_getD]
  · rfl
theorem planAt_take {p : List (List Nat)} {L : List (Int × Int)} {n j : Nat} (hj : j < n) : planAt p (L.take n) j = planAt p L j := by
  unfold planAt
  rw [List.take_take, Nat.min_eq_left (by omega), List.getD_eq_getElem?_getD, List.getD_eq_getElem?_getD, List.getElem?_take, if_pos hj]
theorem planned_20 {P : List (List Int)} (h : ∀ r ∈ P, r.length ≤ 20) (L : List (Int × Int)) (j : Nat) : (stN (planAt (bndP P) L j)).length ≤ 20 := by
  cases hf : planAt (bndP P) L j with
  | none => simp [stN]
  | some s =>
    obtain ⟨t, r, ns⟩ := s
    have h1 := found_len (show first (aftL (bndP P) (L.take j)) (L.getD j (0, 0)).1 = _ from hf)
    have h2 : ((aftL (bndP P) (L.take j)).getD r []).length ≤ 20 := by
      have hg : ∀ (l : List (Int × Int)) (p : List (List Nat)), (p.getD r []).length ≤ 20 → ((aftL p l).getD r []).length ≤ 20 := by
        intro l
        induction l with
        | nil => intro p hp; exact hp
        | cons b l ih => intro p hp; exact ih (aft p b) (by rw [aft_rl]; exact hp)
      exact hg _ _ (bnd_row h r)
    exact Nat.le_trans h1 h2

set_option maxRecDepth 100000 in
set_option maxHeartbeats 8000000 in
theorem walk (a0 : Option Addr) (len0 cap0 : Nat) (a1 : Option Addr) (len1 cap1 : Nat) (w : World) (w0 : IsMatI w a0 len0 cap0) (w1 : IsAsks w a1 len1 cap1) :
    Calls Try.prog 4 #[.slice a0 len0 cap0, .slice a1 len1 cap1] w fun e w' => e = .returned (.bool true) ∧ Below w.heap.size w w' := by
  obtain ⟨ts, hraw⟩ := w0.raw
  obtain ⟨L, hL, hrda⟩ := w1.rda
  obtain ⟨hlc, hcm⟩ := w1.bounds
  obtain ⟨ht10, ht20⟩ := raw_take hraw
  have HR := hid hraw
  have HA := hid hrda
  have HR0 := hid hraw
  have HT10 := hid ht10
  have HT20 := hid ht20
  have HL20 := hid (show L.length ≤ 20 by omega)
  have HL := hid hL
  have HPROF := hid (fun w' (h : Below w.heap.size w w') => profile_any w' a0 len0 cap0 ts (HR.out.all h))
  clear w0 w1 hraw hrda ht10 ht20 hL HR
  have HFEW := hid (fun w' (h : Below w.heap.size w w') => few_any w' a0 len0 cap0 ts (HR0.out.all h))
  generalize ts.take 10 = P at *
  go_enter Try.func4, Try.ntmps4
  go_wp2_with fail
  refine (awake14_any w).mono ?_
  rintro e wa ⟨rfl, hba⟩
  have HBA := hid hba
  have hsa := hba.size
  clear hba
  go_wp2_with fail
  refine (asks_any wa a1 len1 cap1 L HL.out hlc hcm (HA.out.all HBA.out)).mono ?_
  rintro e wb ⟨u, rfl, hu, hbb⟩
  obtain ⟨ua, uc, rfl, hu1, hu2⟩ := hu.len
  have HU := hid hu
  have HB1 := hid (HBA.out.trans (hbb.mono hsa))
  have hsb : w.heap.size ≤ wb.heap.size := HB1.out.size
  clear hu hbb
  have hL20 := HL20.out
  have HN20 := hid (fun j => planned_20 HT20.out L j)
  obtain ⟨S, hS⟩ : ∃ S, S = planL (bndP P) L := ⟨_, rfl⟩
  have hSl : S.length = L.length := by rw [hS]; exact planL_len _ _
  have HSA := hid (show ∀ j, j < S.length → ∃ s : Found, S[j]? = some s ∧ (stN s).length ≤ 20 from fun j hj => by
    refine ⟨planAt (bndP P) L j, ?_, HN20.out j⟩
    rw [hS]; exact planL_at (by omega))
  have HPl1 := hid (fun w8 (hb : Below wb.heap.size wb w8) v8 (h : RdP w8 v8 P) => plan_any w8 v8 _ P L h (by have := HT10.out; omega) (fun r hr => by have := HT20.out r hr; omega) (HU.out.all hb) (by have := HL20.out; omega))
  have HPl2 := hid (fun w8 (hb : Below w.heap.size w w8) v8 (h : RdP w8 v8 P) => rplan_any w8 v8 _ P L h (by have := HT10.out; omega) (fun r hr => by have := HT20.out r hr; omega) (HA.out.all hb) (by have := HL20.out; omega) (fun j => by have := HN20.out j; omega))
  have HNow := hid (fun w8 (hb : Below wb.heap.size wb w8) v8 (h : RdP w8 v8 P) => now_any w8 v8 _ P L h (by have := HT10.out; omega) (fun r hr => by have := HT20.out r hr; omega) (HU.out.all hb) (by have := HL20.out; omega))
  simp only [← hS] at HPl1 HPl2 HNow
  have HSS := hid hS
  clear hS HN20 HA HU
  have hsl20 : S.length ≤ 20 := by omega
  simp only [← hSl] at hu1 HPl1 HPl2 HNow ⊢
  have HSL := hid hSl
  clear hSl
  go_wp2_with fail
  refine (HPROF.out wb HB1.out).mono ?_
  rintro e w2 ⟨v2, rfl, hv2, hb2⟩
  have HD2 := hid hb2
  have hs2 := hb2.size
  go_wp2_with fail
  refine (HPl1.out w2 HD2.out _ hv2).mono ?_
  rintro e w3 ⟨v3, rfl, hst, hb3⟩
  obtain ⟨sa, sc, rfl, hsc1, hsc2⟩ := hst.len
  have HD3 := hid (HD2.out.trans (hb3.mono hs2))
  have hs3 := HD3.out.size
  have HST := hid hst
  clear hv2 hb2 hb3 hst
  go_wp2_with fail
  refine (HFEW.out w3 (HB1.out.trans (HD3.out.mono hsb))).mono ?_
  rintro e w4 ⟨v4, rfl, hv4, hb4⟩
  have HD4 := hid (HD3.out.trans (hb4.mono hs3))
  have hs4 := HD4.out.size
  have HST4 := hid (HST.out.below hb4)
  go_wp2_with fail
  refine (HPl2.out w4 (HB1.out.trans (HD4.out.mono hsb)) _ hv4).mono ?_
  rintro e w5 ⟨v5, rfl, hst', hb5⟩
  obtain ⟨sa', sc', rfl, hsc1', hsc2'⟩ := hst'.len
  have HD5 := hid (HD4.out.trans (hb5.mono hs4))
  have hs5 := HD5.out.size
  have HST' := hid hst'
  have HST5 := hid (HST4.out.below hb5)
  have HB6 := hid (HB1.out.trans (HD5.out.mono hsb))
  have hs6 : w.heap.size ≤ w5.heap.size := by omega
  clear hv4 hb4 hb5 hst' HST HST4 HD2 HD3 HD4 HPl1 HPl2
  go_wp2_with fail
  go_loopw [9, 35] (fun nv i wr => ∃ k : Nat, k ≤ S.length ∧ i = .int .i64 k ∧ wr.ownsRow w5.heap.size 3 1 nv (nowTo S k).length ((nowTo S k).map iv) ∧ Below w5.heap.size w5 wr) (fun _ i _ => S.length - (intOf i).toNat)
  case atStart => exact ⟨0, Nat.zero_le _, rfl, World.ownsRow_nil _ _ _ _, Below.refl _ _⟩
  case round =>
    obtain ⟨k, hk, rfl, hv, hB⟩ := hrel
    have HB := hid hB
    have HV := hid hv
    have hsr : w5.heap.size ≤ wr.heap.size := hB.size
    have hol := nowTo_le S k
    obtain ⟨av, cv, rfl, hcv1, hcv2⟩ := owns_slice hv
    clear hv
    by_cases hlt : k < S.length
    · obtain ⟨s, h1, h20⟩ := HSA.out k hlt
      have hBd : Below w5.heap.size w5 wr.drew := hB.drew
      have HBd := hid hBd
      have hsrd : wr.drew.heap.size = wr.heap.size := rfl
      obtain ⟨b, rfl, hbl, -, u, hr, ho⟩ := (HST5.out.below hBd).at k s h1
      obtain ⟨b', rfl, hbl', -, u', hr', ho'⟩ := (HST'.out.below hBd).at k s h1
      obtain ⟨xa, xc, rfl, hx1, hx2⟩ := owns_slice ho
      obtain ⟨ya, yc, rfl, hy1, hy2⟩ := owns_slice ho'
      have HSU := hid (nowTo_succ S k)
      have hgd : S.getD k none = s := by rw [List.getD_eq_getElem?_getD, h1]; rfl
      rw [hgd] at HSU
      have hnw : nw s = (s.isSome && stA s == 0) := rfl
      have z0 : wr.drew.cell? ⟨b, k * 4, none⟩ = some (.int .i64 (stA s : Nat)) := hr 0 _ rfl
      have z1 : wr.drew.cell? ⟨b, k * 4 + 1, none⟩ = some (.int .i64 (stR s : Nat)) := hr 1 _ rfl
      have z2 : wr.drew.cell? ⟨b, k * 4 + 2, none⟩ = some (.slice xa (stN s).length xc) := hr 2 _ rfl
      have z3 : wr.drew.cell? ⟨b, k * 4 + 3, none⟩ = some (.bool s.isSome) := hr 3 _ rfl
      have y0 : wr.drew.cell? ⟨b', k * 4, none⟩ = some (.int .i64 (stA s : Nat)) := hr' 0 _ rfl
      have y1 : wr.drew.cell? ⟨b', k * 4 + 1, none⟩ = some (.int .i64 (stR s : Nat)) := hr' 1 _ rfl
      have y2 : wr.drew.cell? ⟨b', k * 4 + 2, none⟩ = some (.slice ya (stN s).length yc) := hr' 2 _ rfl
      have y3 : wr.drew.cell? ⟨b', k * 4 + 3, none⟩ = some (.bool s.isSome) := hr' 3 _ rfl
      have HSM := hid (same14_any wr.drew (stA s : Nat) (stR s : Nat) s.isSome (.slice xa (stN s).length xc) (.slice ya (stN s).length yc) (stN s) (RdV.of_own ho) (RdV.of_own ho') (by omega))
      have hki : (k : Int) < (S.length : Int) := by omega
      clear hr ho hr' ho' h1 hgd hB hBd
      generalize (stN s).length = nn at *
      generalize stA s = A at *
      generalize stR s = R at *
      generalize s.isSome = ok at *
      have HNW := hid hnw
      clear hnw
      cases ok with
      | false =>
        have HM := hid (show nowTo S (k + 1) = nowTo S k by rw [HSU.out, HNW.out]; rfl)
        go_wp2_with fail
        go_region_held3 (fun w' => w'.cell? ⟨b, k * 4, none⟩ = some (.int .i64 A) ∧ w'.cell? ⟨b, k * 4 + 1, none⟩ = some (.int .i64 R) ∧ w'.cell? ⟨b, k * 4 + 2, none⟩ = some (.slice xa nn xc) ∧ w'.cell? ⟨b, k * 4 + 3, none⟩ = some (.bool false) ∧ w'.cell? ⟨b', k * 4, none⟩ = some (.int .i64 A) ∧ w'.cell? ⟨b', k * 4 + 1, none⟩ = some (.int .i64 R) ∧ w'.cell? ⟨b', k * 4 + 2, none⟩ = some (.slice ya nn yc) ∧ w'.cell? ⟨b', k * 4 + 3, none⟩ = some (.bool false))
          (first | (with_reducible refine ⟨?_, ?_, ?_, ?_, ?_, ?_, ?_, ?_⟩ <;> assumption) | fail)
          (first
            | (go_at_call 16; (with_reducible refine HSM.out.mono ?_); rintro e w6 ⟨rfl, hb6⟩; have t0 := (hb6.cell (p := ⟨b, k * 4, none⟩) hbl).trans z0; have t1 := (hb6.cell (p := ⟨b, k * 4 + 1, none⟩) hbl).trans z1; have t2 := (hb6.cell (p := ⟨b, k * 4 + 2, none⟩) hbl).trans z2; have t3 := (hb6.cell (p := ⟨b, k * 4 + 3, none⟩) hbl).trans z3; have t4 := (hb6.cell (p := ⟨b', k * 4, none⟩) hbl').trans y0; have t5 := (hb6.cell (p := ⟨b', k * 4 + 1, none⟩) hbl').trans y1; have t6 := (hb6.cell (p := ⟨b', k * 4 + 2, none⟩) hbl').trans y2; have t7 := (hb6.cell (p := ⟨b', k * 4 + 3, none⟩) hbl').trans y3; have HB66 := hid hb6; have HB7 := hid (HBd.out.trans (hb6.mono (by omega))); clear hb6)
            | fail)
        have HVW := hid (owns_below HV.out ((Below.refl _ wr).drew.trans HB66.out))
        go_wp2
        go_roundw
        case rel => exact ⟨k + 1, hlt, by go_num, by rw [HM.out]; exact HVW.out, HB7.out⟩
        case measure => simp [intOf]; omega
      | true =>
        by_cases h0 : A = 0
        · subst h0
          have HM := hid (show nowTo S (k + 1) = nowTo S k ++ [k] by rw [HSU.out, HNW.out]; rfl)
          rw [show ((0 : Nat) : Int) = 0 from rfl] at HSM z0 y0
          go_wp2_with fail
          go_region_held3 (fun w' => w'.cell? ⟨b, k * 4, none⟩ = some (.int .i64 0) ∧ w'.cell? ⟨b, k * 4 + 1, none⟩ = some (.int .i64 R) ∧ w'.cell? ⟨b, k * 4 + 2, none⟩ = some (.slice xa nn xc) ∧ w'.cell? ⟨b, k * 4 + 3, none⟩ = some (.bool true) ∧ w'.cell? ⟨b', k * 4, none⟩ = some (.int .i64 0) ∧ w'.cell? ⟨b', k * 4 + 1, none⟩ = some (.int .i64 R) ∧ w'.cell? ⟨b', k * 4 + 2, none⟩ = some (.slice ya nn yc) ∧ w'.cell? ⟨b', k * 4 + 3, none⟩ = some (.bool true))
            (first | (with_reducible refine ⟨?_, ?_, ?_, ?_, ?_, ?_, ?_, ?_⟩ <;> assumption) | fail)
            (first
              | (go_at_call 16; (with_reducible refine HSM.out.mono ?_); rintro e w6 ⟨rfl, hb6⟩; have t0 := (hb6.cell (p := ⟨b, k * 4, none⟩) hbl).trans z0; have t1 := (hb6.cell (p := ⟨b, k * 4 + 1, none⟩) hbl).trans z1; have t2 := (hb6.cell (p := ⟨b, k * 4 + 2, none⟩) hbl).trans z2; have t3 := (hb6.cell (p := ⟨b, k * 4 + 3, none⟩) hbl).trans z3; have t4 := (hb6.cell (p := ⟨b', k * 4, none⟩) hbl').trans y0; have t5 := (hb6.cell (p := ⟨b', k * 4 + 1, none⟩) hbl').trans y1; have t6 := (hb6.cell (p := ⟨b', k * 4 + 2, none⟩) hbl').trans y2; have t7 := (hb6.cell (p := ⟨b', k * 4 + 3, none⟩) hbl').trans y3; have HB66 := hid hb6; have HB7 := hid (HBd.out.trans (hb6.mono (by omega))); clear hb6)
              | fail)
          have HVW := hid (owns_below HV.out ((Below.refl _ wr).drew.trans HB66.out))
          have hs66 : wr.heap.size ≤ w6.heap.size := HB66.out.size
          have hof := hid (owns_below HVW.out ((Below.refl _ _).alloc (Nat.le_refl _) (.cells #[.int .i64 (k : Nat)] 3)))
          have hsrc := hid (SrcC.lit w6 #[.int .i64 (k : Nat)] 3 1 [iv k] rfl)
          have hsa6 : w5.heap.size ≤ (w6.alloc (.cells #[.int .i64 (k : Nat)] 3)).heap.size := by rw [World.size_alloc]; omega
          generalize hol' : (nowTo S k).length = ol at *
          have HOL := hid hol'
          clear hol'
          go_wp2_with (first
            | (at_builtin; (refine appsw (by rfl) 25 3 (.tmp 61) (.tmp 63) rfl w5.heap.size 1 8 _ Try.underlying25 Try.infoInt rfl (by decide) _ _ ol 1 (ol + 1) _ _ rfl rfl hof.out hsrc.out rfl (by intro y hy; rw [List.mem_singleton] at hy; subst hy; rfl) rfl (by omega) (by omega) (by omega) ?_); intro ad9 cp9 wA hoA hgA; have HOA := hid hoA; have HGA := hid hgA; clear hoA hgA)
            | fail)
          have hbA : Below w5.heap.size w5 wA := (HB7.out.alloc (by omega) (.cells #[.int .i64 (k : Nat)] 3)).grown HGA.out (by simp; omega) (fun g hg => (World.ownsRow.lt HV.out g hg).1)
          have HBA := hid hbA
          clear hbA
          go_wp2
          go_roundw
          case rel => exact ⟨k + 1, hlt, by go_num, by rw [HM.out, List.length_append, HOL.out, List.map_append]; exact HOA.out, HBA.out⟩
          case measure => simp [intOf]; omega
        · have d1 : ((A : Int) == 0) = false := by simp; omega
          have d2 : decide (A = 0) = false := by simpa using h0
          have d3 : (A == 0) = false := by simpa using h0
          have HM := hid (show nowTo S (k + 1) = nowTo S k by rw [HSU.out, HNW.out, d3]; rfl)
          go_wp2_with fail
          go_region_held3 (fun w' => w'.cell? ⟨b, k * 4, none⟩ = some (.int .i64 A) ∧ w'.cell? ⟨b, k * 4 + 1, none⟩ = some (.int .i64 R) ∧ w'.cell? ⟨b, k * 4 + 2, none⟩ = some (.slice xa nn xc) ∧ w'.cell? ⟨b, k * 4 + 3, none⟩ = some (.bool true) ∧ w'.cell? ⟨b', k * 4, none⟩ = some (.int .i64 A) ∧ w'.cell? ⟨b', k * 4 + 1, none⟩ = some (.int .i64 R) ∧ w'.cell? ⟨b', k * 4 + 2, none⟩ = some (.slice ya nn yc) ∧ w'.cell? ⟨b', k * 4 + 3, none⟩ = some (.bool true))
            (first | (with_reducible refine ⟨?_, ?_, ?_, ?_, ?_, ?_, ?_, ?_⟩ <;> assumption) | fail)
            (first
              | (go_at_call 16; (with_reducible refine HSM.out.mono ?_); rintro e w6 ⟨rfl, hb6⟩; have t0 := (hb6.cell (p := ⟨b, k * 4, none⟩) hbl).trans z0; have t1 := (hb6.cell (p := ⟨b, k * 4 + 1, none⟩) hbl).trans z1; have t2 := (hb6.cell (p := ⟨b, k * 4 + 2, none⟩) hbl).trans z2; have t3 := (hb6.cell (p := ⟨b, k * 4 + 3, none⟩) hbl).trans z3; have t4 := (hb6.cell (p := ⟨b', k * 4, none⟩) hbl').trans y0; have t5 := (hb6.cell (p := ⟨b', k * 4 + 1, none⟩) hbl').trans y1; have t6 := (hb6.cell (p := ⟨b', k * 4 + 2, none⟩) hbl').trans y2; have t7 := (hb6.cell (p := ⟨b', k * 4 + 3, none⟩) hbl').trans y3; have HB66 := hid hb6; have HB7 := hid (HBd.out.trans (hb6.mono (by omega))); clear hb6)
              | fail)
          have HVW := hid (owns_below HV.out ((Below.refl _ wr).drew.trans HB66.out))
          go_wp2
          go_roundw
          case rel => exact ⟨k + 1, hlt, by go_num, by rw [HM.out]; exact HVW.out, HB7.out⟩
          case measure => simp [intOf]; omega
    · have e : k = S.length := by omega
      have hki : ¬ (k : Int) < (S.length : Int) := by omega
      have HVN := hid (show wr.ownsRow w5.heap.size 3 1 (.slice av (nowL S).length cv) (nowL S).length ((nowL S).map iv) by
        have h9 := HV.out
        rw [e] at h9
        exact h9)
      have e2 : (nowTo S k).length = (nowL S).length := by rw [e]; rfl
      rw [e2] at hcv1 hol ⊢
      have HB8 := hid (HD5.out.trans (hB.mono hs5))
      have HB9 := hid (HB6.out.trans (hB.mono hs6))
      clear hlt e hB e2
      go_wp2_with fail
      refine (HPROF.out wr HB9.out).mono ?_
      rintro e w6 ⟨v6, rfl, hv6, hb6⟩
      have HB10 := hid (HB8.out.trans (hb6.mono (by omega)))
      have hs10 := hb6.size
      go_wp2_with fail
      refine (HNow.out w6 HB10.out _ hv6).mono ?_
      rintro e w7 ⟨v7, rfl, hv7, hb7⟩
      obtain ⟨na, nc, rfl, hn1, hn2⟩ := owns_slice hv7
      have HN7 := hid hv7
      have HVN7 := hid (owns_below (owns_below HVN.out hb6) hb7)
      have HB11 := hid (HB10.out.trans (hb7.mono (by omega)))
      have hs11 := HB11.out.size
      clear hv6 hb6 hv7 hb7
      have hnl20 : (nowL S).length ≤ 20 := by omega
      obtain ⟨N, hN⟩ : ∃ N, N = nowL S := ⟨_, rfl⟩
      rw [← hN] at HN7 HVN7 hn1 hcv1 hnl20 ⊢
      clear hN HVN HV
      go_wp2_with fail
      obtain ⟨wz, hwz⟩ : ∃ wz, wz = wr := ⟨_, rfl⟩
      subst hwz
      go_loopw [77] (fun i wx => ∃ k : Nat, k ≤ N.length ∧ i = .int .i64 k ∧ Below w7.heap.size w7 wx) (fun i _ => N.length - (intOf i).toNat)
      case atStart => exact ⟨0, Nat.zero_le _, rfl, Below.refl _ _⟩
      case round =>
        obtain ⟨q, hq, rfl, hB⟩ := hrel
        have HB := hid hB
        by_cases hlt : q < N.length
        · obtain ⟨x, hx⟩ : ∃ x, N[q]? = some x := ⟨_, List.getElem?_eq_getElem hlt⟩
          obtain ⟨-, g1, o1, rfl, -, hc1⟩ := (RdV.of_own (owns_below HN7.out hB)).at q (iv x) (by rw [List.getElem?_map, hx]; rfl)
          obtain ⟨-, g2, o2, rfl, -, hc2⟩ := (RdV.of_own (owns_below HVN7.out hB)).at q (iv x) (by rw [List.getElem?_map, hx]; rfl)
          have c1 : wr.cell? ⟨g1, o1 + q, none⟩ = some (.int .i64 (x : Int)) := hc1
          have c2 : wr.cell? ⟨g2, o2 + q, none⟩ = some (.int .i64 (x : Int)) := hc2
          have hqi : (q : Int) < (N.length : Int) := by omega
          clear hc1 hc2 hB hx
          go_wp2_with fail
          go_quiet (fail)
          go_wp2_with fail
          go_roundw
          case rel => exact ⟨q + 1, hlt, by go_num, below_behind HB.out _⟩
          case measure => simp [intOf]; omega
        · have e : q = N.length := by omega
          have hqi : ¬ (q : Int) < (N.length : Int) := by omega
          clear hlt hB
          go_wp2
          go_ret
          exact ⟨rfl, (HB1.out.trans (HB11.out.mono hsb)).trans (HB.out.mono (by omega))⟩

/-! ### THE ROW's STEP -/
set_option maxRecDepth 100000 in
theorem lifted (os : Os) (started : os.Started) (H : Type) (enc : TypeId × Value → H) :
    ReturnsInHanded {} Try.checked os 4 .any (Rows.planAllSpec.pre6 enc Try.prog Try.f4 Rows.planAllRow.domain false) (Rows.planAllSpec.post enc Try.prog Try.f4 false true false false) := by
  refine returnsInHanded_of_change (C := Try.checked) own started (by kernel_rfl) Try.func4
    (ChangeSpec.witness6 (enc := enc) (C := Try.checked) false ⟨#[], #[.slice none 0 0, .slice none 0 0], []⟩ 8 (by kernel_rfl) (by kernel_rfl) (by kernel_rfl) (by kernel_rfl)) ?_
  intro W base args ds gs before hval0 hW hcnd _
  have hval : ∀ (j : Nat) t v, Try.f4.params[j]? = some t → args[j]? = some v → Value.okWide Try.prog W .any base t v := hval0
  have hW' := hW
  obtain ⟨p, q, hA0, hV, rfl, hfz, hnd⟩ := hW
  have hA : DataW.TrodAll enc Try.prog W 0 (fun _ => true) true Try.f4.params.toList args.toList ds p := hA0
  rw [Try.params4] at hA hval
  obtain ⟨v0, vs0, d0, ds0, p0, q0, hargs, rfl, rfl, h0, r0⟩ := trodAll_cons hA
  obtain ⟨v1, vs1, d1, ds1, p1, q1, rfl, rfl, rfl, h1, r1⟩ := trodAll_cons r0
  obtain ⟨rfl, rfl, rfl⟩ := trodAll_nil r1
  obtain rfl : args = #[v0, v1] := by cases args; simp_all
  obtain ⟨rfl, rfl⟩ := trodVars_none hV
  have k0 := h0
  have lt0 : ∀ x ∈ p0, x.block < W.heap.size := by obtain ⟨m, hm⟩ := k0; exact DataW.trod_lt m _ _ _ hm
  have k1 := h1
  have lt1 : ∀ x ∈ p1, x.block < W.heap.size := by obtain ⟨m, hm⟩ := k1; exact DataW.trod_lt m _ _ _ hm
  obtain ⟨a0, len0, cap0, rfl⟩ := okWide_slice Try.underlying22 (hval 0 22 v0 rfl rfl)
  have w0 : IsMatI W a0 len0 cap0 := isMatI_of h0
  obtain ⟨a1, len1, cap1, rfl⟩ := okWide_slice Try.underlying41 (hval 1 41 v1 rfl rfl)
  have w1 : IsAsks W a1 len1 cap1 := isAsks_of h1
  clear hA0 hval0
  refine (walk a0 len0 cap0 a1 len1 cap1 W w0 w1).mono fun e W' ⟨he, bel⟩ => ?_
  subst he
  exact ⟨_, rfl, _, _, _, [], _, [], hW', trodAll_mk1 (shut_bool Try.underlying4 _), (trodAll_cons_mk (Below.trod laidOut (by kernel_rfl) (of_decide_eq_true (by kernel_rfl)) k0 bel lt0) (trodAll_cons_mk (Below.trod laidOut (by kernel_rfl) (of_decide_eq_true (by kernel_rfl)) k1 bel lt1) trodAll_mk0)), rfl, bel.frame _, fun h => by cases h⟩

theorem over : Rows.planAllRow.holds Try.pinned (OpenSpec.ofChange Rows.planAllSpec) :=
  OpenClaim.holds_of_wide 4 Try.f4 rfl rfl rfl rfl rfl rfl rfl ⟨rfl, rfl, rfl, rfl, rfl⟩ rfl rfl rfl rfl rfl (by kernel_rfl) Try.func4 (by kernel_rfl)
    (of_decide_eq_true (by kernel_rfl)) (by unfold Func.isWrapper; first | (rw [if_pos (by decide +kernel)]; kernel_rfl) | (rw [if_neg (by decide +kernel)]; exact ⟨rfl, rfl⟩))
    (fun os started H enc _ => lifted os started H enc)

/-- THE STATEMENT -/
theorem planAll_holds : Rows.PlanAllSaid := over
#print axioms planAll_holds
end Go.Proofs.Ytecojmpiaaehlaa.planAll
