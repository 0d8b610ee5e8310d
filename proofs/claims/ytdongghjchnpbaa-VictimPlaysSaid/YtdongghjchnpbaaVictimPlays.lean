/-
  Of any matrix, any who may have to go and any ask it is told who goes, row by row and in all, as the document tells it.
  (The frame behind the walk is the guide's shell, at these parameters.)
-/
import Derived.Test.YtdongghjchnpbaaRows
import Derived.WalkKit
import Derived.Test.YtdongghjchnpbaaVc2
import Derived.ProofKit
import Derived.Deep.Cut
import Derived.Deep.CutRange
import Derived.Deep.CutBlock
import Derived.Deep.Grids
import Derived.OpenShut
import Derived.ShutString
import Derived.ChangeOld
import Derived.Below
namespace Go.Proofs.Ytdongghjchnpbaa.victimPlays
open Go.ChangeShapes Go.WideShapes Go.ChangeAt Go.RowKit
open Go.ChangeMaps (open_string shut_string)
set_option linter.unusedVariables false

theorem own : ownKnob Try.prog.godebug = none := by kernel_rfl
theorem laidOut : laidOutB Try.prog = true := by kernel_rfl

set_option linter.unusedSimpArgs false
set_option maxRecDepth 100000 in
set_option maxHeartbeats 16000000 in
theorem walk (a0 : Int) (a1 : Int) (a2 : Option Addr) (len2 cap2 : Nat) (a3 : Int) (a4 : Int) (a5 : Int) (a6 : Int) (w : World) (w0 : (Lit.int .u8 a0).wf = true) (w1 : (Lit.int .u8 a1).wf = true) (w2 : IsSt15 w a2 len2 cap2) (w3 : (Lit.int .u16 a3).wf = true) (w4 : (Lit.int .u8 a4).wf = true) (w5 : (Lit.int .i64 a5).wf = true) (w6 : (Lit.int .i64 a6).wf = true) :
    Calls Try.prog 4 #[.int .u8 a0, .int .u8 a1, .slice a2 len2 cap2, .int .u16 a3, .int .u8 a4, .int .i64 a5, .int .i64 a6] w fun e w' => e = .returned (.bool true) ∧ Below w.heap.size w w' := by
  have bd0 := bounds_u8 w0
  have bd1 := bounds_u8 w1
  have bd3 := bounds_u16 w3
  have bdT := bounds_u8 w4
  obtain ⟨r0, rfl⟩ := Int.eq_ofNat_of_zero_le (show 0 ≤ a0 by omega)
  obtain ⟨n0, rfl⟩ := Int.eq_ofNat_of_zero_le (show 0 ≤ a1 by omega)
  obtain ⟨d0, rfl⟩ := Int.eq_ofNat_of_zero_le (show 0 ≤ a3 by omega)
  obtain ⟨t0, rfl⟩ := Int.eq_ofNat_of_zero_le (show 0 ≤ a4 by omega)
  obtain ⟨S, hS⟩ := w2.all
  obtain ⟨hlc, hcm⟩ := w2.bounds
  have HS := hid hS
  have HR0 := hid (show r0 < 256 by omega)
  have HN0 := hid (show n0 < 256 by omega)
  have HD0 := hid (show d0 < 65536 by omega)
  have HT0 := hid (show t0 < 256 by omega)
  clear w0 w1 w2 w3 w4 w5 w6 bd0 bd1 bd3 bdT hS
  go_enter Try.func4, Try.ntmps4
  go_wp2_with fail
  refine (awake15_any w).mono ?_
  rintro e wa ⟨rfl, hba⟩
  have HBA := hid hba
  have hsa := hba.size
  clear hba
  go_wp2_with fail
  refine (build15_any wa r0 n0 d0 HR0.out HN0.out HD0.out a2 len2 cap2 S hlc hcm (HS.out.below (HBA.out))).mono ?_
  rintro e wb ⟨lo, G, m, va, vb, rfl, hX⟩
  obtain ⟨pm, hpm⟩ : ∃ p, p = wa.heap.size := ⟨_, rfl⟩
  have hM : MxAt wb pm m := by rw [hpm]; exact hX.b.at_
  have hRX := hX.b.rx
  have hONE := hX.b.one
  have HB0 := hid (HBA.out.trans (hX.b.bel.mono hsa))
  have HSB := hid (HS.out.below (HB0.out))
  obtain ⟨L, hL⟩ : ∃ L, L = cands S (min len2 40) := ⟨_, rfl⟩
  have HLB := hid (show ∀ x ∈ L, x.1 < 4294967296 ∧ x.2 < 256 from fun x hx => by
    rw [hL] at hx
    obtain ⟨i, h1, h2, rfl⟩ := cands_mem.1 hx
    obtain ⟨_, _, _, _, _, _, _, h9⟩ := HSB.out i (by omega)
    exact ⟨(by simp only; omega), h9⟩)
  have hRD : RdC wb va L := by have h1 := hX.la; rw [← hL] at h1; exact RdC.of_own h1 HLB.out
  have hRB : RdC wb vb L := by have h1 := hX.lb; rw [← hL] at h1; exact RdC.of_own h1 HLB.out
  have hLL : L.length ≤ 1000 := by rw [hL]; have := cands_len S (min len2 40); omega
  obtain ⟨o, ho⟩ : ∃ o, o = best15 (fun r => m.leave r L t0 a5) m.r := ⟨_, rfl⟩
  obtain ⟨q, hq⟩ : ∃ q, q = m.leaveI a6 L t0 a5 := ⟨_, rfl⟩
  obtain ⟨B, hB⟩ : ∃ B, B = bOf o := ⟨_, rfl⟩
  obtain ⟨P, hP⟩ : ∃ P, P = pOf o := ⟨_, rfl⟩
  obtain ⟨Z, hZ⟩ : ∃ Z, Z = o.isSome := ⟨_, rfl⟩
  obtain ⟨Q, hQ⟩ : ∃ Q, Q = qOf q := ⟨_, rfl⟩
  obtain ⟨Y, hY⟩ : ∃ Y, Y = q.isSome := ⟨_, rfl⟩
  obtain ⟨NP, hNP⟩ : ∃ n, n = P.length := ⟨_, rfl⟩
  obtain ⟨NQ, hNQ⟩ : ∃ n, n = Q.length := ⟨_, rfl⟩
  rw [← hpm]
  obtain ⟨al, cl, rfl, hcl1, hcl2⟩ := hRD.len
  obtain ⟨ab, cb, rfl, hcb1, hcb2⟩ := hRB.len
  have HCH := hid (show ∀ W, Below wb.heap.size wb W → Calls Try.prog 26 #[.pointer (some ⟨pm, 0, none⟩), .slice al L.length cl, .int .u8 (t0 : Nat), .int .i64 a5] W fun e w' => ∃ a c, e = .returned (.tuple #[.agg #[.int .i64 (B : Nat), .slice a NP c], .bool Z]) ∧ RdV w' (.slice a NP c) (P.map uv) ∧ Below W.heap.size W w' from fun W hW => by
    rw [hNP, hP, hB, hZ, ho]
    exact (choose15_any W pm m _ L t0 a5 (hM.below hW hM.lt) (hRD.below hW) hLL HT0.out HLB.out).mono fun e w' h => choose_flat h)
  have HRC := hid (show ∀ W, Below wb.heap.size wb W → Calls Try.prog 27 #[.pointer (some ⟨G.x, 0, none⟩), .slice ab L.length cb, .int .u8 (t0 : Nat), .int .i64 a5] W fun e w' => ∃ a c, e = .returned (.tuple #[.int .i64 (B : Nat), .slice a NP c, .bool Z]) ∧ RdV w' (.slice a NP c) (P.map uv) ∧ Below W.heap.size W w' from fun W hW => by
    rw [hNP, hP, hB, hZ, ho]
    exact (rchoose_any W lo G m _ L t0 a5 (hRX.below hW (Nat.le_refl _)) hONE (hRB.below hW) hLL HT0.out HLB.out).mono fun e w' h => rchoose_flat h)
  have HOF := hid (show ∀ W, Below wb.heap.size wb W → Calls Try.prog 28 #[.pointer (some ⟨pm, 0, none⟩), .int .i64 a6, .slice al L.length cl, .int .u8 (t0 : Nat), .int .i64 a5] W fun e w' => ∃ a c, e = .returned (.tuple #[.slice a NQ c, .bool Y]) ∧ RdV w' (.slice a NQ c) (Q.map uv) ∧ Below W.heap.size W w' from fun W hW => by
    rw [hNQ, hQ, hY, hq]
    exact of15_flat W pm a6 m _ L t0 a5 (hM.below hW hM.lt) (hRD.below hW) hLL HT0.out HLB.out)
  have HRO := hid (show ∀ W, Below wb.heap.size wb W → Calls Try.prog 29 #[.pointer (some ⟨G.x, 0, none⟩), .int .i64 a6, .slice ab L.length cb, .int .u8 (t0 : Nat), .int .i64 a5] W fun e w' => ∃ a c, e = .returned (.tuple #[.slice a NQ c, .bool Y]) ∧ RdV w' (.slice a NQ c) (Q.map uv) ∧ Below W.heap.size W w' from fun W hW => by
    rw [hNQ, hQ, hY, hq]
    exact rof15_flat W lo G a6 m _ L t0 a5 (hRX.below hW (Nat.le_refl _)) hONE (hRB.below hW) hLL HT0.out HLB.out)
  generalize L.length = ln at *
  clear hM hRX hONE hX hL hRD hRB hLL ho hq hB hP hZ hQ hY hNP hNQ hpm
  have HC := hid (HCH.out wb (Below.refl _ _))
  go_upto_region 5 with (first
    | (go_at_call 26; (with_reducible refine HC.out.mono ?_); rintro e w2 ⟨au, cu, rfl, hr2, hb2⟩; have HB2 := hid hb2; have HR2 := hid hr2; clear hb2 hr2)
    | fail)
  obtain ⟨y, hy⟩ : ∃ x, x = w2.alloc (.cells #[.int .i64 ((B : Nat) : Int), .slice au NP cu] 62) := ⟨_, rfl⟩
  have hby : Below w2.heap.size w2 y := by rw [hy]; exact (Below.refl _ _).alloc (Nat.le_refl _) _
  have hgy : y.heap[w2.heap.size]? = some (.cells #[.int .i64 ((B : Nat) : Int), .slice au NP cu] 62 (0, 0)) := by rw [hy]; exact heap_alloc_new w2 _
  obtain ⟨pb, hpb⟩ : ∃ p, p = w2.heap.size := ⟨_, rfl⟩
  rw [← hpb] at hgy
  rw [← hy, ← hpb]
  have HYB := hid (HB2.out.trans (hby.mono HB2.out.size))
  have HGY := hid hgy
  have c0 : y.cell? ⟨pb, 0, none⟩ = some (.int .i64 ((B : Nat) : Int)) := (cell_of_row _ _ _ _ _ _ hgy).trans rfl
  have c1 : y.cell? ⟨pb, 1, none⟩ = some (.slice au NP cu) := (cell_of_row _ _ _ _ _ _ hgy).trans rfl
  have HPB := hid (show pb < y.heap.size from (Array.getElem?_eq_some_iff.1 hgy).1)
  have HRY := hid (HR2.out.all hby)
  have HRC1 := hid (HRC.out y HYB.out)
  clear hy hpb hby hgy HC
  go_upto_region 6 with (first
    | (go_at_call 27; (with_reducible refine HRC1.out.mono ?_); rintro e w3 ⟨av, cv, rfl, hr3, hb3⟩; have HB3 := hid (HYB.out.trans (hb3.mono HYB.out.size)); have HR3 := hid hr3; have HY3 := hid (HRY.out.all hb3); have d0 := (hb3.cell (p := ⟨pb, 0, none⟩) (World.block_lt_of_cell? _ _ c0)).trans c0; have d1 := (hb3.cell (p := ⟨pb, 1, none⟩) (World.block_lt_of_cell? _ _ c1)).trans c1; clear hb3 hr3)
    | fail)
  have HOF1 := hid (HOF.out w3 HB3.out)
  clear c0 c1
  go_upto_region 7 with (first
    | (go_at_call 28; (with_reducible refine HOF1.out.mono ?_); rintro e w4 ⟨ax, cx, rfl, hr4, hb4⟩; have HB4 := hid (HB3.out.trans (hb4.mono HB3.out.size)); have HR4 := hid hr4; have HY4 := hid (HY3.out.all hb4); have HV4 := hid (HR3.out.all hb4); have e0 := (hb4.cell (p := ⟨pb, 0, none⟩) (World.block_lt_of_cell? _ _ d0)).trans d0; have e1 := (hb4.cell (p := ⟨pb, 1, none⟩) (World.block_lt_of_cell? _ _ d1)).trans d1; clear hb4 hr4)
    | fail)
  have HRO1 := hid (HRO.out w4 HB4.out)
  clear d0 d1
  go_upto_region 8 with (first
    | (go_at_call 29; (with_reducible refine HRO1.out.mono ?_); rintro e w5 ⟨ay, cy, rfl, hr5, hb5⟩; have HB5 := hid (HB4.out.trans (hb5.mono HB4.out.size)); have HR5 := hid hr5; have HY5 := hid (HY4.out.all hb5); have HV5 := hid (HV4.out.all hb5); have HX5 := hid (HR4.out.all hb5); have f0 := (hb5.cell (p := ⟨pb, 0, none⟩) (World.block_lt_of_cell? _ _ e0)).trans e0; have f1 := (hb5.cell (p := ⟨pb, 1, none⟩) (World.block_lt_of_cell? _ _ e1)).trans e1; clear hb5 hr5)
    | fail)
  have HNI := hid (choose15_nil w5 (.slice al ln cl) t0 a5)
  clear e0 e1
  go_upto_region 9 with (first
    | (go_at_call 26; (with_reducible refine HNI.out.mono ?_); rintro e w6 ⟨rfl, hb6⟩; have HB6 := hid hb6; clear hb6)
    | fail)
  obtain ⟨y6, hy6⟩ : ∃ x, x = w6.alloc (.cells #[.int .i64 0, .slice none 0 0] 62) := ⟨_, rfl⟩
  have hby6 : Below w5.heap.size w5 y6 := by rw [hy6]; exact HB6.out.trans ((Below.refl _ _).alloc HB6.out.size _)
  rw [← hy6]
  have HBZ := hid (HB5.out.trans (hby6.mono HB5.out.size))
  have g0 := (hby6.cell (p := ⟨pb, 0, none⟩) (World.block_lt_of_cell? _ _ f0)).trans f0
  have g1 := (hby6.cell (p := ⟨pb, 1, none⟩) (World.block_lt_of_cell? _ _ f1)).trans f1
  have HS1 := hid (same_any y6 _ _ P P (HY5.out.all hby6) (HV5.out.all hby6))
  have HS2 := hid (fun W (hW : Below y6.heap.size y6 W) => same_any W _ _ Q Q ((HX5.out.all hby6).all hW) ((HR5.out.all hby6).all hW))
  clear hy6 hby6 f0 f1
  have hzz : (Z == Z) = true := by simp
  have hyy : (Y == Y) = true := by simp
  have hbb : ((B : Int) == (B : Int)) = true := by simp
  have hpp : decide (P = P) = true := by simp
  have hqq : decide (Q = Q) = true := by simp
  rw [hpp] at HS1
  rw [hqq] at HS2
  clear hpp hqq
  go_wp2_with (first
    | (go_at_call 30; (with_reducible refine HS1.out.mono ?_); rintro e w7 ⟨rfl, hb7⟩; have HB7 := hid hb7; have HS3 := hid (HS2.out w7 hb7); clear hb7)
    | (go_at_call 30; (with_reducible refine HS3.out.mono ?_); rintro e w8 ⟨rfl, hb8⟩; have HB8 := hid (HB7.out.trans (hb8.mono HB7.out.size)); clear hb8)
    | fail)
  go_ret
  exact ⟨rfl, HB0.out.trans ((HBZ.out.trans (HB8.out.mono HBZ.out.size)).mono HB0.out.size)⟩

/-! ### THE ROW's STEP -/
set_option maxRecDepth 100000 in
theorem lifted (os : Os) (started : os.Started) (H : Type) (enc : TypeId × Value → H) :
    ReturnsInHanded {} Try.checked os 4 .any (Rows.victimPlaysSpec.pre6 enc Try.prog Try.f4 Rows.victimPlaysRow.domain false) (Rows.victimPlaysSpec.post enc Try.prog Try.f4 false true false false) := by
  refine returnsInHanded_of_change (C := Try.checked) own started (by kernel_rfl) Try.func4
    (ChangeSpec.witness6 (enc := enc) (C := Try.checked) false ⟨#[], #[.int .u8 0, .int .u8 0, .slice none 0 0, .int .u16 0, .int .u8 0, .int .i64 0, .int .i64 0], []⟩ 8 (by kernel_rfl) (by kernel_rfl) (by kernel_rfl) (by kernel_rfl)) ?_
  intro W base args ds gs before hval0 hW hcnd _
  have hval : ∀ (j : Nat) t v, Try.f4.params[j]? = some t → args[j]? = some v → Value.okWide Try.prog W .any base t v := hval0
  have hW' := hW
  obtain ⟨p, q, hA0, hV, rfl, hfz, hnd⟩ := hW
  have hA : DataW.TrodAll enc Try.prog W 0 (fun _ => true) true Try.f4.params.toList args.toList ds p := hA0
  rw [Try.params4] at hA hval
  obtain ⟨v0, vs0, d0, ds0, p0, q0, hargs, rfl, rfl, h0, r0⟩ := trodAll_cons hA
  obtain ⟨v1, vs1, d1, ds1, p1, q1, rfl, rfl, rfl, h1, r1⟩ := trodAll_cons r0
  obtain ⟨v2, vs2, d2, ds2, p2, q2, rfl, rfl, rfl, h2, r2⟩ := trodAll_cons r1
  obtain ⟨v3, vs3, d3, ds3, p3, q3, rfl, rfl, rfl, h3, r3⟩ := trodAll_cons r2
  obtain ⟨v4, vs4, d4, ds4, p4, q4, rfl, rfl, rfl, h4, r4⟩ := trodAll_cons r3
  obtain ⟨v5, vs5, d5, ds5, p5, q5, rfl, rfl, rfl, h5, r5⟩ := trodAll_cons r4
  obtain ⟨v6, vs6, d6, ds6, p6, q6, rfl, rfl, rfl, h6, r6⟩ := trodAll_cons r5
  obtain ⟨rfl, rfl, rfl⟩ := trodAll_nil r6
  obtain rfl : args = #[v0, v1, v2, v3, v4, v5, v6] := by cases args; simp_all
  obtain ⟨rfl, rfl⟩ := trodVars_none hV
  have k0 := h0
  have lt0 : ∀ x ∈ p0, x.block < W.heap.size := by obtain ⟨m, hm⟩ := k0; exact DataW.trod_lt m _ _ _ hm
  have k1 := h1
  have lt1 : ∀ x ∈ p1, x.block < W.heap.size := by obtain ⟨m, hm⟩ := k1; exact DataW.trod_lt m _ _ _ hm
  have k2 := h2
  have lt2 : ∀ x ∈ p2, x.block < W.heap.size := by obtain ⟨m, hm⟩ := k2; exact DataW.trod_lt m _ _ _ hm
  have k3 := h3
  have lt3 : ∀ x ∈ p3, x.block < W.heap.size := by obtain ⟨m, hm⟩ := k3; exact DataW.trod_lt m _ _ _ hm
  have k4 := h4
  have lt4 : ∀ x ∈ p4, x.block < W.heap.size := by obtain ⟨m, hm⟩ := k4; exact DataW.trod_lt m _ _ _ hm
  have k5 := h5
  have lt5 : ∀ x ∈ p5, x.block < W.heap.size := by obtain ⟨m, hm⟩ := k5; exact DataW.trod_lt m _ _ _ hm
  have k6 := h6
  have lt6 : ∀ x ∈ p6, x.block < W.heap.size := by obtain ⟨m, hm⟩ := k6; exact DataW.trod_lt m _ _ _ hm
  obtain ⟨a0, rfl, rfl, rfl, w0⟩ := open_int Try.underlying5 (hval 0 5 v0 rfl rfl) h0
  obtain ⟨a1, rfl, rfl, rfl, w1⟩ := open_int Try.underlying5 (hval 1 5 v1 rfl rfl) h1
  obtain ⟨a2, len2, cap2, rfl⟩ := okWide_slice Try.underlying54 (hval 2 54 v2 rfl rfl)
  have w2 : IsSt15 W a2 len2 cap2 := isSt15_of h2
  obtain ⟨a3, rfl, rfl, rfl, w3⟩ := open_int Try.underlying55 (hval 3 55 v3 rfl rfl) h3
  obtain ⟨a4, rfl, rfl, rfl, w4⟩ := open_int Try.underlying5 (hval 4 5 v4 rfl rfl) h4
  obtain ⟨a5, rfl, rfl, rfl, w5⟩ := open_int Try.underlying3 (hval 5 3 v5 rfl rfl) h5
  obtain ⟨a6, rfl, rfl, rfl, w6⟩ := open_int Try.underlying3 (hval 6 3 v6 rfl rfl) h6
  clear hA0 hval0
  refine (walk a0 a1 a2 len2 cap2 a3 a4 a5 a6 W w0 w1 w2 w3 w4 w5 w6).mono fun e W' ⟨he, bel⟩ => ?_
  subst he
  exact ⟨_, rfl, _, _, _, [], _, [], hW', trodAll_mk1 (shut_bool Try.underlying4 _), (trodAll_cons_mk (Below.trod laidOut (by kernel_rfl) (of_decide_eq_true (by kernel_rfl)) k0 bel lt0) (trodAll_cons_mk (Below.trod laidOut (by kernel_rfl) (of_decide_eq_true (by kernel_rfl)) k1 bel lt1) (trodAll_cons_mk (Below.trod laidOut (by kernel_rfl) (of_decide_eq_true (by kernel_rfl)) k2 bel lt2) (trodAll_cons_mk (Below.trod laidOut (by kernel_rfl) (of_decide_eq_true (by kernel_rfl)) k3 bel lt3) (trodAll_cons_mk (Below.trod laidOut (by kernel_rfl) (of_decide_eq_true (by kernel_rfl)) k4 bel lt4) (trodAll_cons_mk (Below.trod laidOut (by kernel_rfl) (of_decide_eq_true (by kernel_rfl)) k5 bel lt5) (trodAll_cons_mk (Below.trod laidOut (by kernel_rfl) (of_decide_eq_true (by kernel_rfl)) k6 bel lt6) trodAll_mk0))))))), rfl, bel.frame _, fun h => by cases h⟩

theorem over : Rows.victimPlaysRow.holds Try.pinned (OpenSpec.ofChange Rows.victimPlaysSpec) :=
  OpenClaim.holds_of_wide 4 Try.f4 rfl rfl rfl rfl rfl rfl rfl ⟨rfl, rfl, rfl, rfl, rfl⟩ rfl rfl rfl rfl rfl (by kernel_rfl) Try.func4 (by kernel_rfl)
    (of_decide_eq_true (by kernel_rfl)) (by unfold Func.isWrapper; first | (rw [if_pos (by decide +kernel)]; kernel_rfl) | (rw [if_neg (by decide +kernel)]; exact ⟨rfl, rfl⟩))
    (fun os started H enc _ => lifted os started H enc)

/-- THE STATEMENT -/
theorem victimPlays_holds : Rows.VictimPlaysSaid := over
#print axioms victimPlays_holds
end Go.Proofs.Ytdongghjchnpbaa.victimPlays
