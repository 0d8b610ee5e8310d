/-
  P14.3: who starts now delays nobody ahead.
  (The frame behind the walk is the guide's shell, at these parameters.)
-/
import Derived.Test.YtecojmpiaaehlaaRows
import Derived.WalkKit
import Derived.Test.YtecojmpiaaehlaaLwC
import Derived.Test.YtecojmpiaaehlaaPlY
import Derived.ProofKit
import Derived.Deep.Cut
import Derived.Deep.CutRange
import Derived.Deep.CutBlock
import Derived.Deep.Grids
import Derived.OpenShut
import Derived.ShutString
import Derived.ChangeOld
import Derived.Below
namespace Go.Proofs.Ytecojmpiaaehlaa.planFair
open Go.ChangeShapes Go.WideShapes Go.ChangeAt Go.RowKit
open Go.ChangeMaps (open_string shut_string)
set_option linter.unusedVariables false

theorem own : ownKnob Try.prog.godebug = none := by kernel_rfl
theorem laidOut : laidOutB Try.prog = true := by kernel_rfl

theorem now_mem {S : List Found} {k i : Nat} (h : (nowL S)[k]? = some i) : i < S.length ∧ ∃ r ns, S[i]? = some (some (0, r, ns)) := by
  have hm := List.mem_of_getElem? h
  unfold nowL nowTo at hm
  rw [List.mem_filter, List.mem_range] at hm
  obtain ⟨hi, hn⟩ := hm
  refine ⟨hi, ?_⟩
  rw [List.getD_eq_getElem?_getD, List.getElem?_eq_getElem hi] at hn
  rw [List.getElem?_eq_getElem hi]
  revert hn
  generalize S[i] = s
  intro hn
  match s, hn with
  | none, hn => simp [nw] at hn
  | some (t, r, ns), hn =>
    have : t = 0 := by simpa [nw, stA] using hn
    subst this
    exact ⟨r, ns, rfl⟩
theorem rda_take {w : World} {a : Option Addr} {n cap : Nat} {L : List (Int × Int)} (h : RdA w (.slice a n cap) L) {m : Nat} (hm : m ≤ L.length) : RdA w (.slice a m cap) (L.take m) := by
  obtain ⟨a', cap', e, h1, h2, h3⟩ := h
  simp only [Value.slice.injEq] at e
  obtain ⟨rfl, -, rfl⟩ := e
  have hl : (L.take m).length = m := by rw [List.length_take]; omega
  refine ⟨_, _, by rw [hl], by omega, h2, fun j x hj => ?_⟩
  rw [List.getElem?_take] at hj
  split at hj
  · exact h3 j x hj
  · cases hj
theorem rda_at {w : World} {a : Option Addr} {n cap : Nat} {L : List (Int × Int)} (h : RdA w (.slice a n cap) L) {j : Nat} {x : Int × Int} (hj : L[j]? = some x) :
    ∃ b off, a = some ⟨b, off, none⟩ ∧ b < w.heap.size ∧ w.rangeAt b (off + j * 2) [.int .i64 x.1, .int .i64 x.2] := by
  obtain ⟨a', cap', e, h1, h2, h3⟩ := h
  simp only [Value.slice.injEq] at e
  obtain ⟨rfl, -, rfl⟩ := e
  exact h3 j x hj
theorem found_len {p : List (List Nat)} {K : Int} {t r : Nat} {ns : List Nat} (h : first p K = some (t, r, ns)) : ns.length ≤ (p.getD r []).length := by
  obtain ⟨hr, k, -, hk, hT, hns⟩ := first_row h
  rw [hns]
  unfold sel selTo
  exact Nat.le_trans (List.length_filter_le _ _) (by simp)
theorem bnd_row {P : List (List Int)} (h : ∀ r ∈ P, r.length ≤ 20) (r : Nat) : ((bndP P).getD r []).length ≤ 20 := by
  rw [List.getD_eq_getElem?_getD]
  unfold bndP
  rw [List.getElem?_map]
  cases hr : P[r]? with
  | none => simp
  | some l => simpa [bndL] using h l (List.mem_of_getElem? hr)

set_option maxRecDepth 100000 in
set_option maxHeartbeats 8000000 in
theorem walk (a0 : Option Addr) (len0 cap0 : Nat) (a1 : Option Addr) (len1 cap1 : Nat) (w : World) (w0 : IsMatI w a0 len0 cap0) (w1 : IsAsks w a1 len1 cap1) :
    Calls Try.prog 5 #[.slice a0 len0 cap0, .slice a1 len1 cap1] w fun e w' => e = .returned (.bool true) ∧ Below w.heap.size w w' := by
  obtain ⟨ts, hraw⟩ := w0.raw
  obtain ⟨L, hL, hrda⟩ := w1.rda
  obtain ⟨hlc, hcm⟩ := w1.bounds
  obtain ⟨ht10, ht20⟩ := raw_take hraw
  have HR := hid hraw
  have HA := hid hrda
  have HT10 := hid ht10
  have HT20 := hid ht20
  have HL20 := hid (show L.length ≤ 20 by omega)
  have HL := hid hL
  have HPROF := hid (fun w' (h : Below w.heap.size w w') => profile_any w' a0 len0 cap0 ts (HR.out.all h))
  clear w0 w1 hraw hrda ht10 ht20 hL HR
  generalize ts.take 10 = P at *
  go_enter Try.func5, Try.ntmps5
  go_wp2_with fail
  refine (awake14_any w).mono ?_
  rintro e wa ⟨rfl, hba⟩
  have HBA := hid hba
  have hsa := hba.size
  clear hba
  go_wp2_with fail
  refine (asks_any wa a1 len1 cap1 L HL.out hlc hcm (HA.out.all HBA.out)).mono ?_
  rintro e wb ⟨u, rfl, hu, hbb⟩
  obtain ⟨ua, uc, rfl, hu1, hu2⟩ := hu.len
  have HU := hid hu
  have HB1 := hid (HBA.out.trans (hbb.mono hsa))
  have hsb : w.heap.size ≤ wb.heap.size := HB1.out.size
  clear hu hbb
  go_wp2_with fail
  refine (HPROF.out wb HB1.out).mono ?_
  rintro e wc ⟨v, rfl, hv, hbc⟩
  have HB2 := hid (HB1.out.trans (hbc.mono hsb))
  have hsc : wb.heap.size ≤ wc.heap.size := hbc.size
  have HUc := hid (HU.out.all hbc)
  have HC := hid (plan_any wc v _ P L hv (by have := HT10.out; omega) (fun r hr => by have := HT20.out r hr; omega) HUc.out (by have := HL20.out; omega))
  clear hbc hv
  go_wp2_with fail
  refine HC.out.mono ?_
  rintro e wd ⟨st, rfl, hst, hbd⟩
  obtain ⟨sa, sc, rfl, hsc1, hsc2⟩ := hst.len
  rw [planL_len] at hsc1
  simp only [planL_len]
  have HS := hid hst
  have HB3 := hid (HB2.out.trans (hbd.mono (by omega)))
  have hsd : wc.heap.size ≤ wd.heap.size := hbd.size
  have HUd := hid (HUc.out.all hbd)
  clear hbd hst HC
  go_wp2_with fail
  refine (HPROF.out wd HB3.out).mono ?_
  rintro e we ⟨v', rfl, hv, hbe⟩
  have HB4 := hid (HB3.out.trans (hbe.mono (by omega)))
  have hse : wd.heap.size ≤ we.heap.size := hbe.size
  have HUe := hid (HUd.out.all hbe)
  have HSe := hid (HS.out.below hbe)
  have HC := hid (now_any we v' _ P L hv (by have := HT10.out; omega) (fun r hr => by have := HT20.out r hr; omega) HUe.out (by have := HL20.out; omega))
  clear hbe hv
  go_wp2_with fail
  refine HC.out.mono ?_
  rintro e wf ⟨nv, rfl, hnv, hbf⟩
  obtain ⟨na, nc, rfl, hnc1, hnc2⟩ := owns_slice hnv
  have HN := hid hnv
  have HB5 := hid (HB4.out.trans (hbf.mono (by omega)))
  have hsf : we.heap.size ≤ wf.heap.size := hbf.size
  have HUf := hid (HUe.out.all hbf)
  have HSf := hid (HSe.out.below hbf)
  clear hbf hnv HC HUe HUd HUc HU HS HSe HB1 HB2 HB3 HB4
  obtain ⟨S, hS⟩ : ∃ S, S = planL (bndP P) L := ⟨_, rfl⟩
  have hSl : S.length = L.length := by rw [hS]; exact planL_len _ _
  have hnl := nowTo_le S S.length
  rw [← hS] at HN HSf hnc1
  simp only [← hS]
  have HSS := hid hS
  have HNN := hid (show nowL S = nowTo S S.length from rfl)
  clear hS
  have hL20 := HL20.out
  have HNL := hid hnl
  generalize hln : L.length = ln at *
  have HLN := hid hln
  clear hln hnl
  generalize hm : (nowL S).length = m at *
  have HM := hid hm
  have hm20 : m ≤ 20 := by have := HNL.out; rw [← HNN.out, hm] at this; omega
  clear hm
  go_wp2_with fail
  go_loopw [26] (fun i wr => ∃ k : Nat, k ≤ m ∧ i = .int .i64 k ∧ Below wf.heap.size wf wr) (fun i _ => m - (intOf i).toNat)
  case atStart => exact ⟨0, Nat.zero_le _, rfl, Below.refl _ _⟩
  case round =>
    obtain ⟨k, hk, rfl, hB⟩ := hrel
    have HB := hid hB
    have hsr : wf.heap.size ≤ wr.heap.size := hB.size
    have HB6 := hid (HB5.out.trans (hB.mono (by omega)))
    have hBd : Below wf.heap.size wf wr.drew := hB.drew
    have HBd := hid hBd
    have hsrd : wr.drew.heap.size = wr.heap.size := rfl
    have HB6d := hid (HB5.out.trans (hBd.mono (by omega)))
    by_cases hlt : k < m
    · obtain ⟨i, hx⟩ : ∃ i, (nowL S)[k]? = some i := ⟨_, List.getElem?_eq_getElem (by rw [HM.out]; exact hlt)⟩
      obtain ⟨hi, r, ns, hs⟩ := now_mem hx
      obtain ⟨-, gn, on, rfl, -, hcn⟩ := (RdV.of_own (owns_below HN.out hB)).at k (iv i) (by rw [List.getElem?_map, hx]; rfl)
      obtain ⟨b, rfl, hbl, -, u, hr, ho⟩ := (HSf.out.below hBd).at i _ hs
      obtain ⟨xa, xc, rfl, hx1, hx2⟩ := owns_slice ho
      obtain ⟨⟨K, N⟩, ha⟩ : ∃ x, L[i]? = some x := ⟨_, List.getElem?_eq_getElem (by rw [HLN.out]; omega)⟩
      have hUr := HUf.out.all hBd
      obtain ⟨bu, ou, rfl, hbu, hru⟩ := rda_at hUr ha
      have z0 : wr.drew.cell? ⟨b, i * 4, none⟩ = some (.int .i64 0) := hr 0 _ rfl
      have z1 : wr.drew.cell? ⟨b, i * 4 + 1, none⟩ = some (.int .i64 (r : Int)) := hr 1 _ rfl
      have z2 : wr.drew.cell? ⟨b, i * 4 + 2, none⟩ = some (.slice xa ns.length xc) := hr 2 _ rfl
      have z3 : wr.drew.cell? ⟨b, i * 4 + 3, none⟩ = some (.bool true) := hr 3 _ rfl
      have z4 : wr.drew.cell? ⟨bu, ou + i * 2 + 1, none⟩ = some (.int .i64 N) := hru 1 _ rfl
      have hki : (k : Int) < (m : Int) := by omega
      have hil : i < ln := by omega
      have hiu : (i : Int) ≤ (uc : Int) := by omega
      have hcn' : wr.cell? ⟨gn, on + k, none⟩ = some (.int .i64 i) := hcn
      have hp : planAt (bndP P) L i = some (0, r, ns) := by
        have h1 := planL_at (p := bndP P) (L := L) (j := i) (by rw [HLN.out]; exact hil)
        rw [← HSS.out, hs] at h1
        exact (Option.some.inj h1).symm
      have hfl : ns.length ≤ 20 := by
        rw [planAt_of ha] at hp
        have h1 := found_len hp
        rw [aftL_rlen] at h1
        exact Nat.le_trans h1 (bnd_row HT20.out r)
      have hfair := plan_fair ha hp
      have hti : (L.take i).length = i := by rw [List.length_take, HLN.out]; omega
      have HQ := hid (fun w9 v9 (hb : Below wr.drew.heap.size wr.drew w9) (h9 : RdP w9 v9 P) => by
        have h1 := delays_any w9 v9 _ P (L.take i) ((0 : Nat) : Int) r N (ns.map Int.ofNat) true (.slice xa ns.length xc) h9 (by have := HT10.out; omega) (fun r hr => by have := HT20.out r hr; omega) (rda_take (hUr.all hb) (by rw [HLN.out]; omega)) (by rw [hti]; omega) (by rw [iw_iv]; exact (RdV.of_own (owns_below ho hb)).weak) (by rw [List.length_map]; omega)
        rw [hti, hfair] at h1
        rw [show ((0 : Nat) : Int) = 0 from rfl] at h1
        exact h1)
      have HPR := hid (HPROF.out wr.drew HB6d.out)
      clear hr ho hx hs hB hBd ha hUr hru hcn hp hfair hti
      go_wp2_with fail
      go_region_held3 (fun w' => w'.cell? ⟨b, i * 4, none⟩ = some (.int .i64 0) ∧ w'.cell? ⟨b, i * 4 + 1, none⟩ = some (.int .i64 (r : Int)) ∧ w'.cell? ⟨b, i * 4 + 2, none⟩ = some (.slice xa ns.length xc) ∧ w'.cell? ⟨b, i * 4 + 3, none⟩ = some (.bool true) ∧ w'.cell? ⟨bu, ou + i * 2 + 1, none⟩ = some (.int .i64 N))
        (first | (refine ⟨?_, ?_, ?_, ?_, ?_⟩ <;> assumption) | fail)
        (first
          | (go_at_call 12; with_reducible refine HPR.out.mono ?_; rintro e w2 ⟨v9, rfl, hv9, hb2⟩; obtain ⟨va9, vc9, rfl, hv91, hv92⟩ := hv9.len; have r0 := (hb2.cell (p := ⟨b, i * 4, none⟩) hbl).trans z0; have r1 := (hb2.cell (p := ⟨b, i * 4 + 1, none⟩) hbl).trans z1; have r2 := (hb2.cell (p := ⟨b, i * 4 + 2, none⟩) hbl).trans z2; have r3 := (hb2.cell (p := ⟨b, i * 4 + 3, none⟩) hbl).trans z3; have r4 := (hb2.cell (p := ⟨bu, ou + i * 2 + 1, none⟩) hbu).trans z4; have hs2 := hb2.size; have HC := hid (HQ.out w2 _ hb2 hv9); have HB2 := hid hb2; clear hv9 hb2)
          | (go_at_call 24; with_reducible refine HC.out.mono ?_; rintro e w3 ⟨rfl, hb3⟩; have t0 := (hb3.cell (p := ⟨b, i * 4, none⟩) (show b < w2.heap.size by omega)).trans r0; have t1 := (hb3.cell (p := ⟨b, i * 4 + 1, none⟩) (show b < w2.heap.size by omega)).trans r1; have t2 := (hb3.cell (p := ⟨b, i * 4 + 2, none⟩) (show b < w2.heap.size by omega)).trans r2; have t3 := (hb3.cell (p := ⟨b, i * 4 + 3, none⟩) (show b < w2.heap.size by omega)).trans r3; have t4 := (hb3.cell (p := ⟨bu, ou + i * 2 + 1, none⟩) (show bu < w2.heap.size by omega)).trans r4; have HB3 := hid (HB2.out.trans (hb3.mono hs2)); clear hb3)
          | fail)
      go_wp2
      go_roundw
      case rel => exact ⟨k + 1, hlt, by go_num, HBd.out.trans (HB3.out.mono (by omega))⟩
      case measure => simp [intOf]; omega
    · have e : k = m := by omega
      have hki : ¬ (k : Int) < (m : Int) := by omega
      clear hlt
      go_wp2
      go_ret
      exact ⟨rfl, HB6.out⟩

/-! ### THE ROW's STEP -/
set_option maxRecDepth 100000 in
theorem lifted (os : Os) (started : os.Started) (H : Type) (enc : TypeId × Value → H) :
    ReturnsInHanded {} Try.checked os 5 .any (Rows.planFairSpec.pre6 enc Try.prog Try.f5 Rows.planFairRow.domain false) (Rows.planFairSpec.post enc Try.prog Try.f5 false true false false) := by
  refine returnsInHanded_of_change (C := Try.checked) own started (by kernel_rfl) Try.func5
    (ChangeSpec.witness6 (enc := enc) (C := Try.checked) false ⟨#[], #[.slice none 0 0, .slice none 0 0], []⟩ 8 (by kernel_rfl) (by kernel_rfl) (by kernel_rfl) (by kernel_rfl)) ?_
  intro W base args ds gs before hval0 hW hcnd _
  have hval : ∀ (j : Nat) t v, Try.f5.params[j]? = some t → args[j]? = some v → Value.okWide Try.prog W .any base t v := hval0
  have hW' := hW
  obtain ⟨p, q, hA0, hV, rfl, hfz, hnd⟩ := hW
  have hA : DataW.TrodAll enc Try.prog W 0 (fun _ => true) true Try.f5.params.toList args.toList ds p := hA0
  rw [Try.params5] at hA hval
  obtain ⟨v0, vs0, d0, ds0, p0, q0, hargs, rfl, rfl, h0, r0⟩ := trodAll_cons hA
  obtain ⟨v1, vs1, d1, ds1, p1, q1, rfl, rfl, rfl, h1, r1⟩ := trodAll_cons r0
  obtain ⟨rfl, rfl, rfl⟩ := trodAll_nil r1
  obtain rfl : args = #[v0, v1] := by cases args; simp_all
  obtain ⟨rfl, rfl⟩ := trodVars_none hV
  have k0 := h0
  have lt0 : ∀ x ∈ p0, x.block < W.heap.size := by obtain ⟨m, hm⟩ := k0; exact DataW.trod_lt m _ _ _ hm
  have k1 := h1
  have lt1 : ∀ x ∈ p1, x.block < W.heap.size := by obtain ⟨m, hm⟩ := k1; exact DataW.trod_lt m _ _ _ hm
  obtain ⟨a0, len0, cap0, rfl⟩ := okWide_slice Try.underlying22 (hval 0 22 v0 rfl rfl)
  have w0 : IsMatI W a0 len0 cap0 := isMatI_of h0
  obtain ⟨a1, len1, cap1, rfl⟩ := okWide_slice Try.underlying41 (hval 1 41 v1 rfl rfl)
  have w1 : IsAsks W a1 len1 cap1 := isAsks_of h1
  clear hA0 hval0
  refine (walk a0 len0 cap0 a1 len1 cap1 W w0 w1).mono fun e W' ⟨he, bel⟩ => ?_
  subst he
  exact ⟨_, rfl, _, _, _, [], _, [], hW', trodAll_mk1 (shut_bool Try.underlying4 _), (trodAll_cons_mk (Below.trod laidOut (by kernel_rfl) (of_decide_eq_true (by kernel_rfl)) k0 bel lt0) (trodAll_cons_mk (Below.trod laidOut (by kernel_rfl) (of_decide_eq_true (by kernel_rfl)) k1 bel lt1) trodAll_mk0)), rfl, bel.frame _, fun h => by cases h⟩

theorem over : Rows.planFairRow.holds Try.pinned (OpenSpec.ofChange Rows.planFairSpec) :=
  OpenClaim.holds_of_wide 5 Try.f5 rfl rfl rfl rfl rfl rfl rfl ⟨rfl, rfl, rfl, rfl, rfl⟩ rfl rfl rfl rfl rfl (by kernel_rfl) Try.func5 (by kernel_rfl)
    (of_decide_eq_true (by kernel_rfl)) (by unfold Func.isWrapper; first | (rw [if_pos (by decide +kernel)]; kernel_rfl) | (rw [if_neg (by decide +kernel)]; exact ⟨rfl, rfl⟩))
    (fun os started H enc _ => lifted os started H enc)

/-- THE STATEMENT -/
theorem planFair_holds : Rows.PlanFairSaid := over
#print axioms planFair_holds
end Go.Proofs.Ytecojmpiaaehlaa.planFair
