/-
  An echo is what it is the echo of, wherever that goes, at every list of bytes, every number of the one that is echoed, and whether that one is lost or not; no condition.
  (The frame behind the walk is the guide's shell, at these parameters.)
-/
import Derived.Test.YtecnopopmonlpaaRows
import Derived.WalkKit
import Derived.Test.YtecnopopmonlpaaAwake9
import Derived.Test.YtecnopopmonlpaaMat9
import Derived.Test.YtecnopopmonlpaaSame
import Derived.ProofKit
import Derived.Deep.Cut
import Derived.Deep.CutRange
import Derived.Deep.CutBlock
import Derived.Deep.Grids
import Derived.OpenShut
import Derived.ShutString
import Derived.ChangeOld
import Derived.Below
namespace Go.Proofs.Ytecnopopmonlpaa.airSame
open Go.ChangeShapes Go.WideShapes Go.ChangeAt Go.RowKit
open Go.ChangeMaps (open_string shut_string)
set_option linter.unusedVariables false

theorem own : ownKnob Try.prog.godebug = none := by kernel_rfl
theorem laidOut : laidOutB Try.prog = true := by kernel_rfl

/-- Behind j of them, with these bytes. -/
def flt (ts : List (List UInt8)) (j : Nat) : Ar := ⟨100, j, (List.range j).map fun i => ⟨i + 1, (i : Int), ts.getD i []⟩⟩

theorem flt_len (ts : List (List UInt8)) (j : Nat) : (flt ts j).l.length = j := by simp [flt]

theorem flt_fly (ts : List (List UInt8)) (j : Nat) (t : List UInt8) (ht : ts[j]? = some t) : (flt ts j).fly (j : Int) t = flt ts (j + 1) := by
  simp [flt, Ar.fly, List.range_succ, ht]

theorem flt_get (ts : List (List UInt8)) (j i : Nat) (t : List UInt8) (h : i < j) (ht : ts[i]? = some t) : (flt ts j).l[i]? = some ⟨i + 1, (i : Int), t⟩ := by
  simp [flt, h, ht]

theorem matrow_at {w : World} {b off K r : Nat} {t : List UInt8} (h : MatRow w b off K r t) : ∃ (A : Option Addr) (L C : Nat), w.cell? ⟨b, off + r, none⟩ = some (.slice A L C) ∧ (if (K : Int) < (L : Int) then (K : Int) else (L : Int)) = (t.length : Int) ∧ t.length ≤ L ∧ L ≤ C ∧ C ≤ 9223372036854775807 ∧ t.length ≤ K ∧ Rd w (.slice A t.length C) t := by
  obtain ⟨A, L, C, h1, h2, h3, h4, h5⟩ := h
  refine ⟨A, L, C, h1, ?_, by omega, h2, h3, by omega, by rw [h4]; exact h5⟩
  rw [h4]
  split <;> omega

set_option maxRecDepth 100000 in
set_option maxHeartbeats 4000000 in
theorem walk (a0 : Option Addr) (len0 cap0 : Nat) (a1 : Int) (a2 : Bool) (w : World) (w0 : IsMat w a0 len0 cap0) (w1 : (Lit.int .u8 a1).wf = true) :
    Calls Try.prog 6 #[.slice a0 len0 cap0, .int .u8 a1, .bool a2] w fun e w' => e = .returned (.bool true) ∧ Below w.heap.size w w' := by
  obtain ⟨n, rfl⟩ := Int.eq_ofNat_of_zero_le (show 0 ≤ a1 by have := bounds_u8 w1; omega)
  have hn2 : (n : Int) < 256 := by have := bounds_u8 w1; omega
  have hlb := w0.bounds
  by_cases hz : len0 = 0
  · subst hz
    clear w0 w1 hlb
    go_enter Try.func6, Try.ntmps6
    go_wp2_with fail
    refine (awake9_any w).mono ?_
    rintro e wa ⟨rfl, hba⟩
    have HBA := hid hba
    have hsa := hba.size
    clear hba
    go_wp2_with fail
    refine (awake9_any wa).mono ?_
    rintro e wb ⟨rfl, hbb⟩
    have HBB := hid hbb
    clear hbb
    go_wp2_with fail
    go_ret
    exact ⟨rfl, HBA.out.trans (HBB.out.mono hsa)⟩
  · obtain ⟨mb, off, rfl, hmb, ts, htl, hrows⟩ := w0.rows (by omega) 40
    obtain ⟨N, hN⟩ : ∃ N, N = min len0 30 := ⟨_, rfl⟩
    have mN : (if (30 : Int) < (len0 : Int) then (30 : Int) else (len0 : Int)) = (N : Int) := by rw [hN]; split <;> omega
    have hN1 : 1 ≤ N := by omega
    have hN2 : N ≤ 30 := by omega
    have hN3 : N ≤ len0 := by omega
    have jN : (N : Int) ≤ (cap0 : Int) := by omega
    have HR := hid hrows
    have HTL := hid htl
    have hz2 : ((len0 : Int) == 0) = false := by rw [beq_eq_false_iff_ne]; omega
    clear w0 w1 hrows htl hN hz
    go_enter Try.func6, Try.ntmps6
    go_wp2_with fail
    refine (awake9_any w).mono ?_
    rintro e wa ⟨rfl, hba⟩
    have HBA := hid hba
    have hsa := hba.size
    clear hba
    go_wp2_with fail
    refine (airnew_yes 100 wa w.heap.size hsa (by omega) (by omega)).mono ?_
    rintro e w1 ⟨rfl, h1, hb1⟩
    have H1 := hid (show AirAt w1 w.heap.size wa.heap.size (flt ts 0) from h1)
    have hs1 := hb1.size
    have K1 := hid ((KT.of_below (ts := airTs) HBA.out (Nat.le_refl _)).trans (KT.of_below hb1 hsa))
    obtain ⟨b, hb⟩ : ∃ b, b = wa.heap.size := ⟨_, rfl⟩
    rw [← hb] at H1
    rw [← hb]
    clear h1 hb1 hb
    go_wp2_with fail
    go_loopw [37] (fun i wr => ∃ j : Nat, j ≤ N ∧ i = .int .i64 j ∧ AirAt wr w.heap.size b (flt ts j) ∧ KT airTs w.heap.size w wr) (fun i _ => N - (intOf i).toNat)
    case atStart => exact ⟨0, Nat.zero_le _, rfl, H1.out, K1.out⟩
    case round =>
      obtain ⟨j, hj, rfl, hA, hK⟩ := hrel
      have HA := hid hA
      have HK := hid hK
      have hsr := hK.size
      clear hA hK
      by_cases hlt : j < N
      · obtain ⟨t, ht⟩ : ∃ t, ts[j]? = some t := ⟨_, List.getElem?_eq_getElem (by rw [HTL.out]; omega)⟩
        obtain ⟨A, L, C, hc, m40, l1, l2, l3, l4, hrd⟩ := matrow_at (HR.out j t ht)
        rw [show ((40 : Nat) : Int) = 40 from rfl] at m40
        have hcell := (HK.out.below.cell (p := ⟨mb, off + j, none⟩) hmb).trans hc
        have HT := hid ht
        have HRD := hid (hrd.below HK.out.below)
        have jC : (t.length : Int) ≤ (C : Int) := by omega
        have HE := hid (Own.empty wr wr.heap.size (Nat.le_refl _))
        have HRE := hid (HRD.out.alloc (.cells #[] 5))
        clear ht hc hrd
        go_wp2_with (at_builtin; (refine appk rfl (.tmp 44) (.tmp 49) rfl wr.heap.size (.slice (some ⟨wr.heap.size, 0, none⟩) 0 0) _ [] t t t.length rfl rfl HE.out HRE.out (by simp) rfl (by simp; omega) (by simp) ?_); intro ad cp w5 ho hg; have HO := hid ho; have HG := hid hg; clear ho hg)
        have h5b : Below wr.heap.size wr w5 := ((Below.refl _ _).alloc (Nat.le_refl _) _).grown HG.out (by simp) (fun k hk => by have := (HE.out.lt k hk).1; omega)
        have HB5 := hid h5b
        have hs5 := h5b.size
        clear h5b
        refine (fly_yes w.heap.size b (flt ts j) (j : Int) ad cp t w5 (HA.out.below HB5.out) (by omega) HO.out.rd (by rw [flt_len]; show j < 100; omega) (by simp only [flt]; omega) (by omega)).mono ?_
        rintro e w6 ⟨rfl, h6, k6⟩
        rw [flt_fly ts j t HT.out] at h6
        have H6 := hid h6
        have K6 := hid ((HK.out.trans (KT.of_below HB5.out hsr)).trans k6)
        clear h6 k6
        go_wp2_with fail
        go_roundw
        case rel => exact ⟨j + 1, hlt, by go_num, H6.out, K6.out⟩
        case measure => simp [intOf]; omega
      · obtain rfl : j = N := by omega
        obtain ⟨kk, hkk⟩ : ∃ kk, kk = n % j := ⟨_, rfl⟩
        have hk1 : kk < j := by rw [hkk]; exact Nat.mod_lt _ (by omega)
        have ekk : (n : Int) % (j : Int) = (kk : Int) := by rw [hkk]; omega
        clear hkk
        go_wp2_with fail
        rw [ekk]
        clear ekk
        obtain ⟨t, ht⟩ : ∃ t, ts[kk]? = some t := ⟨_, List.getElem?_eq_getElem (by rw [HTL.out]; omega)⟩
        have HT := hid ht
        have hg := flt_get ts j kk t hk1 ht
        have HG1 := hid hg
        clear ht hg
        refine (echo_yes w.heap.size b kk (flt ts j) ⟨kk + 1, (kk : Int), t⟩ wr HA.out hsr HG1.out (by rw [flt_len]; show j < 100; omega) (by simp only [flt]; omega)).mono ?_
        rintro e w3 ⟨rfl, h3, k3⟩
        rw [show (((flt ts j).last : Nat) : Int) + 1 = ((j + 1 : Nat) : Int) from rfl]
        dsimp only at h3
        have H3 := hid h3
        have K3 := hid (HK.out.trans k3)
        have hs3 := k3.size
        clear h3 k3
        have HG2 := hid (show ((flt ts j).fly (kk : Int) t).l[kk]? = some ⟨kk + 1, (kk : Int), t⟩ by
          show ((flt ts j).l ++ [_])[kk]? = _
          rw [List.getElem?_append_left (by rw [flt_len]; exact hk1)]
          exact HG1.out)
        have HG3 := hid (show ((flt ts j).fly (kk : Int) t).l[j]? = some ⟨j + 1, (kk : Int), t⟩ by
          show ((flt ts j).l ++ [_])[j]? = _
          rw [List.getElem?_append_right (by rw [flt_len]; exact Nat.le_refl _), flt_len, Nat.sub_self]
          rfl)
        obtain ⟨A, L, C, hc, m40, l1, l2, l3, l4, hrd⟩ := matrow_at (HR.out kk t HT.out)
        rw [show ((40 : Nat) : Int) = 40 from rfl] at m40
        have HC := hid hc
        have HRD := hid hrd
        have jC : (t.length : Int) ≤ (C : Int) := by omega
        have hkj : (kk : Int) < (j : Int) := by omega
        clear hc hrd
        cases a2
        · go_wp2_with fail
          refine (land_yes w.heap.size b j _ ⟨j + 1, (kk : Int), t⟩ w3 H3.out (by omega) HG3.out).mono ?_
          rintro e w4 ⟨va, vc, rfl, ho, _, k4⟩
          dsimp only
          have HO := hid ho
          have K4 := hid (K3.out.trans k4)
          clear ho k4
          go_wp2_with fail
          obtain ⟨w5, hw5⟩ : ∃ w5, w5 = w4.alloc (.cells #[.int .i64 (kk : Int), .slice va t.length vc] 34) := ⟨_, rfl⟩
          have hb5 : Below w4.heap.size w4 w5 := by rw [hw5]; exact (Below.refl _ _).alloc (Nat.le_refl _) _
          have g5 : w5.heap[w4.heap.size]? = some (.cells #[.int .i64 (kk : Int), .slice va t.length vc] 34 (0, 0)) := by rw [hw5]; exact heap_alloc_new w4 _
          rw [← hw5]
          have hs4 := K4.out.size
          have K5 := hid (K4.out.trans (KT.of_below hb5 (by omega)))
          have HRa := hid ((HO.out.rd.below hb5 : Rd w5 _ t).drew)
          have HRb := hid ((HRD.out.below K5.out.below : Rd w5 _ t).drew)
          have y0 : w5.drew.cell? ⟨w4.heap.size, 0, none⟩ = some (.int .i64 (kk : Int)) := (cell_of_row _ _ _ _ _ _ g5).trans rfl
          have y1 : w5.drew.cell? ⟨w4.heap.size, 1, none⟩ = some (.slice va t.length vc) := (cell_of_row _ _ _ _ _ _ g5).trans rfl
          have y2 : w5.drew.cell? ⟨mb, off + kk, none⟩ = some (.slice A L C) := (K5.out.below.cell (p := ⟨mb, off + kk, none⟩) hmb).trans HC.out
          clear hw5 hb5 g5
          go_region_held3 (fun w' => w'.cell? ⟨w4.heap.size, 0, none⟩ = some (.int .i64 (kk : Int)) ∧ w'.cell? ⟨w4.heap.size, 1, none⟩ = some (.slice va t.length vc) ∧ w'.cell? ⟨mb, off + kk, none⟩ = some (.slice A L C))
            (first | (refine ⟨?_, ?_, ?_⟩ <;> assumption) | fail)
            (first | (go_at_call 12; refine (same_any _ _ t t w5.drew HRa.out HRb.out).mono ?_; rintro e w' ⟨rfl, rfl⟩; rw [show (t == t) = true by simp]; dsimp only) | fail)
          go_wp2
          go_ret
          exact ⟨rfl, (K5.out.drew).below⟩
        · go_wp2_with fail
          refine (lose_yes w.heap.size b kk _ ⟨kk + 1, (kk : Int), t⟩ w3 H3.out (by omega) HG2.out).mono ?_
          rintro e w2 ⟨rfl, h2, k2⟩
          have H2 := hid h2
          have K2 := hid (K3.out.trans k2)
          have hs2 := k2.size
          clear h2 k2
          have HG4 := hid (show (((flt ts j).fly (kk : Int) t).fin kk).l[j - 1]? = some ⟨j + 1, (kk : Int), t⟩ by
            show (((flt ts j).fly (kk : Int) t).l.eraseIdx kk)[j - 1]? = _
            rw [List.getElem?_eraseIdx, if_neg (by omega), show j - 1 + 1 = j by omega]
            exact HG3.out)
          go_wp2_with fail
          refine (land_yes w.heap.size b (j - 1) _ ⟨j + 1, (kk : Int), t⟩ w2 H2.out (by omega) HG4.out).mono ?_
          rintro e w4 ⟨va, vc, rfl, ho, _, k4⟩
          dsimp only
          have HO := hid ho
          have K4 := hid (K2.out.trans k4)
          clear ho k4
          go_wp2_with fail
          obtain ⟨w5, hw5⟩ : ∃ w5, w5 = w4.alloc (.cells #[.int .i64 (kk : Int), .slice va t.length vc] 34) := ⟨_, rfl⟩
          have hb5 : Below w4.heap.size w4 w5 := by rw [hw5]; exact (Below.refl _ _).alloc (Nat.le_refl _) _
          have g5 : w5.heap[w4.heap.size]? = some (.cells #[.int .i64 (kk : Int), .slice va t.length vc] 34 (0, 0)) := by rw [hw5]; exact heap_alloc_new w4 _
          rw [← hw5]
          have hs4 := K4.out.size
          have K5 := hid (K4.out.trans (KT.of_below hb5 (by omega)))
          have HRa := hid ((HO.out.rd.below hb5 : Rd w5 _ t).drew)
          have HRb := hid ((HRD.out.below K5.out.below : Rd w5 _ t).drew)
          have y0 : w5.drew.cell? ⟨w4.heap.size, 0, none⟩ = some (.int .i64 (kk : Int)) := (cell_of_row _ _ _ _ _ _ g5).trans rfl
          have y1 : w5.drew.cell? ⟨w4.heap.size, 1, none⟩ = some (.slice va t.length vc) := (cell_of_row _ _ _ _ _ _ g5).trans rfl
          have y2 : w5.drew.cell? ⟨mb, off + kk, none⟩ = some (.slice A L C) := (K5.out.below.cell (p := ⟨mb, off + kk, none⟩) hmb).trans HC.out
          clear hw5 hb5 g5
          go_region_held3 (fun w' => w'.cell? ⟨w4.heap.size, 0, none⟩ = some (.int .i64 (kk : Int)) ∧ w'.cell? ⟨w4.heap.size, 1, none⟩ = some (.slice va t.length vc) ∧ w'.cell? ⟨mb, off + kk, none⟩ = some (.slice A L C))
            (first | (refine ⟨?_, ?_, ?_⟩ <;> assumption) | fail)
            (first | (go_at_call 12; refine (same_any _ _ t t w5.drew HRa.out HRb.out).mono ?_; rintro e w' ⟨rfl, rfl⟩; rw [show (t == t) = true by simp]; dsimp only) | fail)
          go_wp2
          go_ret
          exact ⟨rfl, (K5.out.drew).below⟩

/-! ### THE ROW's STEP -/
set_option maxRecDepth 100000 in
theorem lifted (os : Os) (started : os.Started) (H : Type) (enc : TypeId × Value → H) :
    ReturnsInHanded {} Try.checked os 6 .any (Rows.airSameSpec.pre6 enc Try.prog Try.f6 Rows.airSameRow.domain false) (Rows.airSameSpec.post enc Try.prog Try.f6 false true false false) := by
  refine returnsInHanded_of_change (C := Try.checked) own started (by kernel_rfl) Try.func6
    (ChangeSpec.witness6 (enc := enc) (C := Try.checked) false ⟨#[], #[.slice none 0 0, .int .u8 0, .bool false], []⟩ 8 (by kernel_rfl) (by kernel_rfl) (by kernel_rfl) (by kernel_rfl)) ?_
  intro W base args ds gs before hval0 hW hcnd _
  have hval : ∀ (j : Nat) t v, Try.f6.params[j]? = some t → args[j]? = some v → Value.okWide Try.prog W .any base t v := hval0
  have hW' := hW
  obtain ⟨p, q, hA0, hV, rfl, hfz, hnd⟩ := hW
  have hA : DataW.TrodAll enc Try.prog W 0 (fun _ => true) true Try.f6.params.toList args.toList ds p := hA0
  rw [Try.params6] at hA hval
  obtain ⟨v0, vs0, d0, ds0, p0, q0, hargs, rfl, rfl, h0, r0⟩ := trodAll_cons hA
  obtain ⟨v1, vs1, d1, ds1, p1, q1, rfl, rfl, rfl, h1, r1⟩ := trodAll_cons r0
  obtain ⟨v2, vs2, d2, ds2, p2, q2, rfl, rfl, rfl, h2, r2⟩ := trodAll_cons r1
  obtain ⟨rfl, rfl, rfl⟩ := trodAll_nil r2
  obtain rfl : args = #[v0, v1, v2] := by cases args; simp_all
  obtain ⟨rfl, rfl⟩ := trodVars_none hV
  have k0 := h0
  have lt0 : ∀ x ∈ p0, x.block < W.heap.size := by obtain ⟨m, hm⟩ := k0; exact DataW.trod_lt m _ _ _ hm
  have k1 := h1
  have lt1 : ∀ x ∈ p1, x.block < W.heap.size := by obtain ⟨m, hm⟩ := k1; exact DataW.trod_lt m _ _ _ hm
  have k2 := h2
  have lt2 : ∀ x ∈ p2, x.block < W.heap.size := by obtain ⟨m, hm⟩ := k2; exact DataW.trod_lt m _ _ _ hm
  obtain ⟨a0, len0, cap0, rfl⟩ := okWide_slice Try.underlying60 (hval 0 60 v0 rfl rfl)
  have w0 : IsMat W a0 len0 cap0 := isMat_of h0
  obtain ⟨a1, rfl, rfl, rfl, w1⟩ := open_int Try.underlying5 (hval 1 5 v1 rfl rfl) h1
  obtain ⟨a2, rfl, rfl, rfl⟩ := open_bool Try.underlying4 (hval 2 4 v2 rfl rfl) h2
  clear hA0 hval0
  refine (walk a0 len0 cap0 a1 a2 W w0 w1).mono fun e W' ⟨he, bel⟩ => ?_
  subst he
  exact ⟨_, rfl, _, _, _, [], _, [], hW', trodAll_mk1 (shut_bool Try.underlying4 _), (trodAll_cons_mk (Below.trod laidOut (by kernel_rfl) (of_decide_eq_true (by kernel_rfl)) k0 bel lt0) (trodAll_cons_mk (Below.trod laidOut (by kernel_rfl) (of_decide_eq_true (by kernel_rfl)) k1 bel lt1) (trodAll_cons_mk (Below.trod laidOut (by kernel_rfl) (of_decide_eq_true (by kernel_rfl)) k2 bel lt2) trodAll_mk0))), rfl, bel.frame _, fun h => by cases h⟩

theorem over : Rows.airSameRow.holds Try.pinned (OpenSpec.ofChange Rows.airSameSpec) :=
  OpenClaim.holds_of_wide 6 Try.f6 rfl rfl rfl rfl rfl rfl rfl ⟨rfl, rfl, rfl, rfl, rfl⟩ rfl rfl rfl rfl rfl (by kernel_rfl) Try.func6 (by kernel_rfl)
    (of_decide_eq_true (by kernel_rfl)) (by unfold Func.isWrapper; first | (rw [if_pos (by decide +kernel)]; kernel_rfl) | (rw [if_neg (by decide +kernel)]; exact ⟨rfl, rfl⟩))
    (fun os started H enc _ => lifted os started H enc)

/-- THE STATEMENT -/
theorem airSame_holds : Rows.AirSameSaid := over
#print axioms airSame_holds
end Go.Proofs.Ytecnopopmonlpaa.airSame
