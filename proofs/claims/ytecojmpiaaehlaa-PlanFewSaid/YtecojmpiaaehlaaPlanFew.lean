/-
  A beginning of a queue is planned as it is in the whole.
  (The frame behind the walk is the guide's shell, at these parameters.)
-/
import Derived.Test.YtecojmpiaaehlaaRows
import Derived.WalkKit
import Derived.Test.YtecojmpiaaehlaaRfS
import Derived.Test.YtecojmpiaaehlaaPlZ
import Derived.ProofKit
import Derived.Deep.Cut
import Derived.Deep.CutRange
import Derived.Deep.CutBlock
import Derived.Deep.Grids
import Derived.OpenShut
import Derived.ShutString
import Derived.ChangeOld
import Derived.Below
namespace Go.Proofs.Ytecojmpiaaehlaa.planFew
open Go.ChangeShapes Go.WideShapes Go.ChangeAt Go.RowKit
open Go.ChangeMaps (open_string shut_string)
set_option linter.unusedVariables false

theorem own : ownKnob Try.prog.godebug = none := by kernel_rfl
theorem laidOut : laidOutB Try.prog = true := by kernel_rfl

theorem rda_take {w : World} {a : Option Addr} {n cap : Nat} {L : List (Int × Int)} (h : RdA w (.slice a n cap) L) {m : Nat} (hm : m ≤ L.length) : RdA w (.slice a m cap) (L.take m) := by
  obtain ⟨a', cap', e, h1, h2, h3⟩ := h
  simp only [Value.slice.injEq] at e
  obtain ⟨rfl, -, rfl⟩ := e
  have hl : (L.take m).length = m := by rw [List.length_take]; omega
  refine ⟨_, _, by rw [hl], by omega, h2, fun j x hj => ?_⟩
  rw [List.getElem?_take] at hj
  split at hj
  · exact h3 j x hj
  · cases hj
theorem found_len {p : List (List Nat)} {K : Int} {t r : Nat} {ns : List Nat} (h : first p K = some (t, r, ns)) : ns.length ≤ (p.getD r []).length := by
  obtain ⟨hr, k, -, hk, hT, hns⟩ := first_row h
  rw [hns]
  unfold sel selTo
  exact Nat.le_trans (List.length_filter_le _ _) (by simp)
theorem bnd_row {P : List (List Int)} (h : ∀ r ∈ P, r.length ≤ 20) (r : Nat) : ((bndP P).getD r []).length ≤ 20 := by
  rw [List.getD_eq_getElem?_getD]
  unfold bndP
  rw [List.getElem?_map]
  cases hr : P[r]? with
  | none => simp
  | some l => simpa [bndL] using h l (List.mem_of_getElem? hr)

theorem setI_len (l : List Nat) (ns : List Int) (e : Nat) : (setI l ns e).length = l.length := by
  unfold setI
  induction ns generalizing l with
  | nil => rfl
  | cons n ns ih => rw [List.foldl_cons, ih]; split <;> simp
theorem aft_rl (p : List (List Nat)) (a : Int × Int) (r : Nat) : ((aft p a).getD r []).length = (p.getD r []).length := by
  rw [aft_res]
  unfold resI
  split
  · rename_i h
    rw [List.getD_eq_getElem?_getD, List.getD_eq_getElem?_getD, List.getElem?_set]
    by_cases hr : (stR (first p a.1) : Int).toNat = r
    · subst hr
      rw [if_pos rfl, if_pos (by omega)]
      simp only [Option.getD_some, setI_len]
      rw [List.getD_eq_getElem?_getD]
    · rw [if_neg hr, List.getD_eq_getElem?_getD]
  · rfl
theorem planAt_take {p : List (List Nat)} {L : List (Int × Int)} {n j : Nat} (hj : j < n) : planAt p (L.take n) j = planAt p L j := by
  unfold planAt
  rw [List.take_take, Nat.min_eq_left (by omega), List.getD_eq_getElem?_getD, List.getD_eq_getElem?_getD, List.getElem?_take, if_pos hj]
theorem planned_20 {P : List (List Int)} (h : ∀ r ∈ P, r.length ≤ 20) (L : List (Int × Int)) (j : Nat) : (stN (planAt (bndP P) L j)).length ≤ 20 := by
  cases hf : planAt (bndP P) L j with
  | none => simp [stN]
  | some s =>
    obtain ⟨t, r, ns⟩ := s
    have h1 := found_len (show first (aftL (bndP P) (L.take j)) (L.getD j (0, 0)).1 = _ from hf)
    have h2 : ((aftL (bndP P) (L.take j)).getD r []).length ≤ 20 := by
      have hg : ∀ (l : List (Int × Int)) (p : List (List Nat)), (p.getD r []).length ≤ 20 → ((aftL p l).getD r []).length ≤ 20 := by
        intro l
        induction l with
        | nil => intro p hp; exact hp
        | cons b l ih => intro p hp; exact ih (aft p b) (by rw [aft_rl]; exact hp)
      exact hg _ _ (bnd_row h r)
    exact Nat.le_trans h1 h2

set_option maxRecDepth 100000 in
set_option maxHeartbeats 8000000 in
theorem walk (a0 : Option Addr) (len0 cap0 : Nat) (a1 : Option Addr) (len1 cap1 : Nat) (a2 : Int) (w : World) (w0 : IsMatI w a0 len0 cap0) (w1 : IsAsks w a1 len1 cap1) (w2 : (Lit.int .u8 a2).wf = true) :
    Calls Try.prog 10 #[.slice a0 len0 cap0, .slice a1 len1 cap1, .int .u8 a2] w fun e w' => e = .returned (.bool true) ∧ Below w.heap.size w w' := by
  obtain ⟨ts, hraw⟩ := w0.raw
  obtain ⟨L, hL, hrda⟩ := w1.rda
  obtain ⟨hlc, hcm⟩ := w1.bounds
  have bd := bounds_u8 w2
  obtain ⟨kk, rfl⟩ := Int.eq_ofNat_of_zero_le (show 0 ≤ a2 by omega)
  have hkk : kk < 256 := by omega
  obtain ⟨ht10, ht20⟩ := raw_take hraw
  have HR := hid hraw
  have HA := hid hrda
  have HT10 := hid ht10
  have HT20 := hid ht20
  have HL20 := hid (show L.length ≤ 20 by omega)
  have HL := hid hL
  have HPROF := hid (fun w' (h : Below w.heap.size w w') => profile_any w' a0 len0 cap0 ts (HR.out.all h))
  clear w0 w1 w2 bd hraw hrda ht10 ht20 hL HR
  generalize ts.take 10 = P at *
  go_enter Try.func10, Try.ntmps10
  go_wp2_with fail
  refine (awake14_any w).mono ?_
  rintro e wa ⟨rfl, hba⟩
  have HBA := hid hba
  have hsa := hba.size
  clear hba
  go_wp2_with fail
  refine (asks_any wa a1 len1 cap1 L HL.out hlc hcm (HA.out.all HBA.out)).mono ?_
  rintro e wb ⟨u, rfl, hu, hbb⟩
  obtain ⟨ua, uc, rfl, hu1, hu2⟩ := hu.len
  have HU := hid hu
  have HB1 := hid (HBA.out.trans (hbb.mono hsa))
  have hsb : w.heap.size ≤ wb.heap.size := HB1.out.size
  clear hu hbb HA
  obtain ⟨n, hn⟩ : ∃ n, n = kk % (L.length + 1) := ⟨_, rfl⟩
  have hnl : n ≤ L.length := by have := Nat.mod_lt kk (show 0 < L.length + 1 by omega); omega
  have hmod : (kk : Int) % ((L.length : Int) + 1) = (n : Int) := by rw [hn, Int.natCast_emod, Int.natCast_add]; rfl
  have hmod2 : Int.tmod (kk : Int) ((L.length : Int) + 1) = (n : Int) := by rw [Int.tmod_eq_emod_of_nonneg (by omega)]; exact hmod
  have hL20 := HL20.out
  have HSm := hid (fun j (hj : j < n) => planAt_take (p := bndP P) (L := L) hj)
  have HN20 := hid (fun j => planned_20 HT20.out L j)
  have HPl1 := hid (fun w8 (hb : Below wb.heap.size wb w8) v8 (h : RdP w8 v8 P) => plan_any w8 v8 _ P L h (by have := HT10.out; omega) (fun r hr => by have := HT20.out r hr; omega) (HU.out.all hb) (by have := HL20.out; omega))
  have htl : (L.take n).length = n := by rw [List.length_take]; omega
  have HPl2 := hid (fun w8 (hb : Below wb.heap.size wb w8) v8 (h : RdP w8 v8 P) => plan_any w8 v8 _ P (L.take n) h (by have := HT10.out; omega) (fun r hr => by have := HT20.out r hr; omega) (rda_take (HU.out.all hb) hnl) (by rw [htl]; omega))
  obtain ⟨S, hS⟩ : ∃ S, S = planL (bndP P) L := ⟨_, rfl⟩
  obtain ⟨S', hS'⟩ : ∃ S, S = planL (bndP P) (L.take n) := ⟨_, rfl⟩
  have hSl : S.length = L.length := by rw [hS]; exact planL_len _ _
  have hSl' : S'.length = n := by rw [hS', planL_len, htl]
  have HSA := hid (show ∀ j, j < n → ∃ s : Found, S[j]? = some s ∧ S'[j]? = some s ∧ (stN s).length ≤ 20 from fun j hj => by
    refine ⟨planAt (bndP P) L j, ?_, ?_, HN20.out j⟩
    · rw [hS]; exact planL_at (by omega)
    · rw [hS', ← HSm.out j hj]; exact planL_at (by rw [htl]; exact hj))
  rw [← hS] at HPl1
  rw [← hS'] at HPl2
  clear hn hS hS' htl HSm HN20 HU
  generalize hln : L.length = ln at *
  have hiu : (n : Int) ≤ (uc : Int) := by omega
  go_wp2_with fail
  have hsbd : wb.drew.heap.size = wb.heap.size := rfl
  go_region_held3 (fun w' => True)
    (first | trivial | fail)
    (first
      | (go_at_call 12; (with_reducible refine (HPROF.out _ HB1.out.drew).mono ?_); rintro e w2 ⟨v2, rfl, hv2, hb2⟩; obtain ⟨va2, vc2, rfl, hv21, hv22⟩ := hv2.len; have hp2 : Below wb.heap.size wb w2 := (Below.refl _ _).drew.trans hb2; have hs2 := hp2.size; have HC2 := hid (HPl1.out w2 hp2 _ hv2); have HD2 := hid hp2; clear hv2 hb2 hp2)
      | (go_at_call 21; (with_reducible refine HC2.out.mono ?_); rintro e w3 ⟨v3, rfl, hst, hb3⟩; obtain ⟨sa, sc, rfl, hsc1, hsc2⟩ := hst.len; have hp3 := HD2.out.trans (hb3.mono hs2); have hs3 := hp3.size; have HST := hid hst; have HD3 := hid hp3; have HC3 := hid (HPROF.out w3 (HB1.out.trans (hp3.mono hsb))); clear hst hb3 hp3)
      | (go_at_call 12; (with_reducible refine HC3.out.mono ?_); rintro e w4 ⟨v4, rfl, hv4, hb4⟩; obtain ⟨va4, vc4, rfl, hv41, hv42⟩ := hv4.len; have hp4 := HD3.out.trans (hb4.mono hs3); have hs4 := hp4.size; have HC4 := hid (HPl2.out w4 hp4 _ hv4); have HD4 := hid hp4; have HST4 := hid (HST.out.below hb4); clear hv4 hb4 hp4)
      | (go_at_call 21; (with_reducible refine HC4.out.mono ?_); rintro e w5 ⟨v5, rfl, hst', hb5⟩; obtain ⟨sa', sc', rfl, hsc1', hsc2'⟩ := hst'.len; have hp5 := HD4.out.trans (hb5.mono hs4); have hs5 := hp5.size; have HST' := hid hst'; have HST5 := hid (HST4.out.below hb5); have HD5 := hid hp5; clear hst' hb5 hp5)
      | fail)
  clear HC2 HC3 HC4 HD2 HD3 HD4 HPl1 HPl2 HST HST4
  have HB6 := hid (HB1.out.trans (HD5.out.mono hsb))
  have hs6 : w.heap.size ≤ w5.heap.size := by omega
  go_wp2_with fail
  go_loopw [42] (fun i wr => ∃ k : Nat, k ≤ n ∧ i = .int .i64 k ∧ Below w5.heap.size w5 wr) (fun i _ => n - (intOf i).toNat)
  case atStart => exact ⟨0, Nat.zero_le _, rfl, Below.refl _ _⟩
  case round =>
    obtain ⟨k, hk, rfl, hB⟩ := hrel
    have HB := hid hB
    have hsr : w5.heap.size ≤ wr.heap.size := hB.size
    by_cases hlt : k < n
    · obtain ⟨s, h1, h2, h20⟩ := HSA.out k hlt
      have hBd : Below w5.heap.size w5 wr.drew := hB.drew
      have HBd := hid hBd
      have hsrd : wr.drew.heap.size = wr.heap.size := rfl
      obtain ⟨b, rfl, hbl, -, u, hr, ho⟩ := (HST5.out.below hBd).at k s h1
      obtain ⟨b', rfl, hbl', -, u', hr', ho'⟩ := (HST'.out.below hBd).at k s h2
      obtain ⟨xa, xc, rfl, hx1, hx2⟩ := owns_slice ho
      obtain ⟨ya, yc, rfl, hy1, hy2⟩ := owns_slice ho'
      have z0 : wr.drew.cell? ⟨b, k * 4, none⟩ = some (.int .i64 (stA s : Nat)) := hr 0 _ rfl
      have z1 : wr.drew.cell? ⟨b, k * 4 + 1, none⟩ = some (.int .i64 (stR s : Nat)) := hr 1 _ rfl
      have z2 : wr.drew.cell? ⟨b, k * 4 + 2, none⟩ = some (.slice xa (stN s).length xc) := hr 2 _ rfl
      have z3 : wr.drew.cell? ⟨b, k * 4 + 3, none⟩ = some (.bool s.isSome) := hr 3 _ rfl
      have y0 : wr.drew.cell? ⟨b', k * 4, none⟩ = some (.int .i64 (stA s : Nat)) := hr' 0 _ rfl
      have y1 : wr.drew.cell? ⟨b', k * 4 + 1, none⟩ = some (.int .i64 (stR s : Nat)) := hr' 1 _ rfl
      have y2 : wr.drew.cell? ⟨b', k * 4 + 2, none⟩ = some (.slice ya (stN s).length yc) := hr' 2 _ rfl
      have y3 : wr.drew.cell? ⟨b', k * 4 + 3, none⟩ = some (.bool s.isSome) := hr' 3 _ rfl
      have HSM := hid (same14_any wr.drew (stA s : Nat) (stR s : Nat) s.isSome (.slice xa (stN s).length xc) (.slice ya (stN s).length yc) (stN s) (RdV.of_own ho) (RdV.of_own ho') (by omega))
      have hki : (k : Int) < (n : Int) := by omega
      have hkl : (k : Int) < (ln : Int) := by omega
      clear hr ho hr' ho' h1 h2 hB hBd
      generalize (stN s).length = nn at *
      generalize stA s = A at *
      generalize stR s = R at *
      generalize s.isSome = ok at *
      go_wp2_with fail
      go_region_held3 (fun w' => w'.cell? ⟨b, k * 4, none⟩ = some (.int .i64 A) ∧ w'.cell? ⟨b, k * 4 + 1, none⟩ = some (.int .i64 R) ∧ w'.cell? ⟨b, k * 4 + 2, none⟩ = some (.slice xa nn xc) ∧ w'.cell? ⟨b, k * 4 + 3, none⟩ = some (.bool ok) ∧ w'.cell? ⟨b', k * 4, none⟩ = some (.int .i64 A) ∧ w'.cell? ⟨b', k * 4 + 1, none⟩ = some (.int .i64 R) ∧ w'.cell? ⟨b', k * 4 + 2, none⟩ = some (.slice ya nn yc) ∧ w'.cell? ⟨b', k * 4 + 3, none⟩ = some (.bool ok))
        (first | (with_reducible refine ⟨?_, ?_, ?_, ?_, ?_, ?_, ?_, ?_⟩ <;> assumption) | fail)
        (first
          | (go_at_call 16; (with_reducible refine HSM.out.mono ?_); rintro e w6 ⟨rfl, hb6⟩; have t0 := (hb6.cell (p := ⟨b, k * 4, none⟩) hbl).trans z0; have t1 := (hb6.cell (p := ⟨b, k * 4 + 1, none⟩) hbl).trans z1; have t2 := (hb6.cell (p := ⟨b, k * 4 + 2, none⟩) hbl).trans z2; have t3 := (hb6.cell (p := ⟨b, k * 4 + 3, none⟩) hbl).trans z3; have t4 := (hb6.cell (p := ⟨b', k * 4, none⟩) hbl').trans y0; have t5 := (hb6.cell (p := ⟨b', k * 4 + 1, none⟩) hbl').trans y1; have t6 := (hb6.cell (p := ⟨b', k * 4 + 2, none⟩) hbl').trans y2; have t7 := (hb6.cell (p := ⟨b', k * 4 + 3, none⟩) hbl').trans y3; have HB7 := hid (HBd.out.trans (hb6.mono (by omega))); clear hb6)
          | fail)
      go_wp2
      go_roundw
      case rel => exact ⟨k + 1, hlt, by go_num, HB7.out⟩
      case measure => simp [intOf]; omega
    · have e : k = n := by omega
      have hki : ¬ (k : Int) < (n : Int) := by omega
      clear hlt hB
      go_wp2
      go_ret
      exact ⟨rfl, HB6.out.trans (HB.out.mono hs6)⟩

/-! ### THE ROW's STEP -/
set_option maxRecDepth 100000 in
theorem lifted (os : Os) (started : os.Started) (H : Type) (enc : TypeId × Value → H) :
    ReturnsInHanded {} Try.checked os 10 .any (Rows.planFewSpec.pre6 enc Try.prog Try.f10 Rows.planFewRow.domain false) (Rows.planFewSpec.post enc Try.prog Try.f10 false true false false) := by
  refine returnsInHanded_of_change (C := Try.checked) own started (by kernel_rfl) Try.func10
    (ChangeSpec.witness6 (enc := enc) (C := Try.checked) false ⟨#[], #[.slice none 0 0, .slice none 0 0, .int .u8 0], []⟩ 8 (by kernel_rfl) (by kernel_rfl) (by kernel_rfl) (by kernel_rfl)) ?_
  intro W base args ds gs before hval0 hW hcnd _
  have hval : ∀ (j : Nat) t v, Try.f10.params[j]? = some t → args[j]? = some v → Value.okWide Try.prog W .any base t v := hval0
  have hW' := hW
  obtain ⟨p, q, hA0, hV, rfl, hfz, hnd⟩ := hW
  have hA : DataW.TrodAll enc Try.prog W 0 (fun _ => true) true Try.f10.params.toList args.toList ds p := hA0
  rw [Try.params10] at hA hval
  obtain ⟨v0, vs0, d0, ds0, p0, q0, hargs, rfl, rfl, h0, r0⟩ := trodAll_cons hA
  obtain ⟨v1, vs1, d1, ds1, p1, q1, rfl, rfl, rfl, h1, r1⟩ := trodAll_cons r0
  obtain ⟨v2, vs2, d2, ds2, p2, q2, rfl, rfl, rfl, h2, r2⟩ := trodAll_cons r1
  obtain ⟨rfl, rfl, rfl⟩ := trodAll_nil r2
  obtain rfl : args = #[v0, v1, v2] := by cases args; simp_all
  obtain ⟨rfl, rfl⟩ := trodVars_none hV
  have k0 := h0
  have lt0 : ∀ x ∈ p0, x.block < W.heap.size := by obtain ⟨m, hm⟩ := k0; exact DataW.trod_lt m _ _ _ hm
  have k1 := h1
  have lt1 : ∀ x ∈ p1, x.block < W.heap.size := by obtain ⟨m, hm⟩ := k1; exact DataW.trod_lt m _ _ _ hm
  have k2 := h2
  have lt2 : ∀ x ∈ p2, x.block < W.heap.size := by obtain ⟨m, hm⟩ := k2; exact DataW.trod_lt m _ _ _ hm
  obtain ⟨a0, len0, cap0, rfl⟩ := okWide_slice Try.underlying22 (hval 0 22 v0 rfl rfl)
  have w0 : IsMatI W a0 len0 cap0 := isMatI_of h0
  obtain ⟨a1, len1, cap1, rfl⟩ := okWide_slice Try.underlying41 (hval 1 41 v1 rfl rfl)
  have w1 : IsAsks W a1 len1 cap1 := isAsks_of h1
  obtain ⟨a2, rfl, rfl, rfl, w2⟩ := open_int Try.underlying5 (hval 2 5 v2 rfl rfl) h2
  clear hA0 hval0
  refine (walk a0 len0 cap0 a1 len1 cap1 a2 W w0 w1 w2).mono fun e W' ⟨he, bel⟩ => ?_
  subst he
  exact ⟨_, rfl, _, _, _, [], _, [], hW', trodAll_mk1 (shut_bool Try.underlying4 _), (trodAll_cons_mk (Below.trod laidOut (by kernel_rfl) (of_decide_eq_true (by kernel_rfl)) k0 bel lt0) (trodAll_cons_mk (Below.trod laidOut (by kernel_rfl) (of_decide_eq_true (by kernel_rfl)) k1 bel lt1) (trodAll_cons_mk (Below.trod laidOut (by kernel_rfl) (of_decide_eq_true (by kernel_rfl)) k2 bel lt2) trodAll_mk0))), rfl, bel.frame _, fun h => by cases h⟩

theorem over : Rows.planFewRow.holds Try.pinned (OpenSpec.ofChange Rows.planFewSpec) :=
  OpenClaim.holds_of_wide 10 Try.f10 rfl rfl rfl rfl rfl rfl rfl ⟨rfl, rfl, rfl, rfl, rfl⟩ rfl rfl rfl rfl rfl (by kernel_rfl) Try.func10 (by kernel_rfl)
    (of_decide_eq_true (by kernel_rfl)) (by unfold Func.isWrapper; first | (rw [if_pos (by decide +kernel)]; kernel_rfl) | (rw [if_neg (by decide +kernel)]; exact ⟨rfl, rfl⟩))
    (fun os started H enc _ => lifted os started H enc)

/-- THE STATEMENT -/
theorem planFew_holds : Rows.PlanFewSaid := over
#print axioms planFew_holds
end Go.Proofs.Ytecojmpiaaehlaa.planFew
