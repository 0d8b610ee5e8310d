/-
  Whoever goes stands in the row that was chosen, and in whatever order those that may have to go are told the choice is the same.
  (The frame behind the walk is the guide's shell, at these parameters.)
-/
import Derived.Test.YtdongghjchnpbaaRows
import Derived.WalkKit
import Derived.Test.YtdongghjchnpbaaVcA
import Derived.Test.YtdongghjchnpbaaVcP
import Derived.ProofKit
import Derived.Deep.Cut
import Derived.Deep.CutRange
import Derived.Deep.CutBlock
import Derived.Deep.Grids
import Derived.OpenShut
import Derived.ShutString
import Derived.ChangeOld
import Derived.Below
namespace Go.Proofs.Ytdongghjchnpbaa.victimApart
open Go.ChangeShapes Go.WideShapes Go.ChangeAt Go.RowKit
open Go.ChangeMaps (open_string shut_string)
set_option linter.unusedVariables false

theorem own : ownKnob Try.prog.godebug = none := by kernel_rfl
theorem laidOut : laidOutB Try.prog = true := by kernel_rfl

set_option linter.unusedSimpArgs false
set_option maxRecDepth 100000 in
set_option maxHeartbeats 16000000 in
theorem walk (a0 : Int) (a1 : Int) (a2 : Option Addr) (len2 cap2 : Nat) (a3 : Int) (a4 : Int) (a5 : Int) (w : World) (w0 : (Lit.int .u8 a0).wf = true) (w1 : (Lit.int .u8 a1).wf = true) (w2 : IsSt15 w a2 len2 cap2) (w3 : (Lit.int .u16 a3).wf = true) (w4 : (Lit.int .u8 a4).wf = true) (w5 : (Lit.int .u8 a5).wf = true) :
    Calls Try.prog 8 #[.int .u8 a0, .int .u8 a1, .slice a2 len2 cap2, .int .u16 a3, .int .u8 a4, .int .u8 a5] w fun e w' => e = .returned (.bool true) ∧ Below w.heap.size w w' := by
  have bd0 := bounds_u8 w0
  have bd1 := bounds_u8 w1
  have bd3 := bounds_u16 w3
  have bdT := bounds_u8 w4
  have bdK := bounds_u8 w5
  obtain ⟨r0, rfl⟩ := Int.eq_ofNat_of_zero_le (show 0 ≤ a0 by omega)
  obtain ⟨n0, rfl⟩ := Int.eq_ofNat_of_zero_le (show 0 ≤ a1 by omega)
  obtain ⟨d0, rfl⟩ := Int.eq_ofNat_of_zero_le (show 0 ≤ a3 by omega)
  obtain ⟨t0, rfl⟩ := Int.eq_ofNat_of_zero_le (show 0 ≤ a4 by omega)
  obtain ⟨k0, rfl⟩ := Int.eq_ofNat_of_zero_le (show 0 ≤ a5 by omega)
  obtain ⟨S, hS⟩ := w2.all
  obtain ⟨hlc, hcm⟩ := w2.bounds
  have HS := hid hS
  have HR0 := hid (show r0 < 256 by omega)
  have HN0 := hid (show n0 < 256 by omega)
  have HD0 := hid (show d0 < 65536 by omega)
  have HT0 := hid (show t0 < 256 by omega)
  obtain ⟨R, hR⟩ : ∃ R, R = 1 + r0 % 8 := ⟨_, rfl⟩
  obtain ⟨K, hK⟩ : ∃ K, K = 1 + k0 % 16 := ⟨_, rfl⟩
  obtain ⟨r7, hr7⟩ : ∃ q, q = r0 % 8 := ⟨_, rfl⟩
  obtain ⟨k7, hk7⟩ : ∃ q, q = k0 % 16 := ⟨_, rfl⟩
  have e1 : (r0 : Int) % 8 = (r7 : Int) := by omega
  have e2 : (r0 : Int).tmod 8 = (r7 : Int) := by rw [Int.tmod_eq_emod_of_nonneg (by omega)]; exact e1
  have e3 : 1 + (r7 : Int) = (R : Int) := by omega
  have f1 : (k0 : Int) % 16 = (k7 : Int) := by omega
  have f2 : (k0 : Int).tmod 16 = (k7 : Int) := by rw [Int.tmod_eq_emod_of_nonneg (by omega)]; exact f1
  have f3 : 1 + (k7 : Int) = (K : Int) := by omega
  have b1 : (r7 : Int) < 8 := by omega
  have b2 : (k7 : Int) < 16 := by omega
  have b3 : (r0 : Int) < 256 := by omega
  have b4 : (k0 : Int) < 256 := by omega
  have hR8 : R ≤ 8 := by omega
  have hK1 : 1 ≤ K := by omega
  have hK16 : K ≤ 16 := by omega
  have HRR := hid hR
  clear w0 w1 w2 w3 w4 w5 bd0 bd1 bd3 bdT bdK hS hR hK hr7 hk7
  go_enter Try.func8, Try.ntmps8
  go_wp2_with fail
  refine (awake15_any w).mono ?_
  rintro e wa ⟨rfl, hba⟩
  have HBA := hid hba
  have hsa := hba.size
  clear hba
  go_wp2_with fail
  refine (build15_any wa r0 n0 d0 HR0.out HN0.out HD0.out a2 len2 cap2 S hlc hcm (HS.out.below (HBA.out))).mono ?_
  rintro e wb ⟨lo, G, m, va, vb, rfl, hX⟩
  obtain ⟨pm, hpm⟩ : ∃ p, p = wa.heap.size := ⟨_, rfl⟩
  have hM : MxAt wb pm m := by rw [hpm]; exact hX.b.at_
  have HM := hid hM
  have HPL := hid hM.lt
  have HPA := hid (show w.heap.size ≤ pm by rw [hpm]; exact hsa)
  have HONE := hid hX.b.one
  have HMR := hid (show m.r = R from hX.b.mr.trans HRR.out.symm)
  have HN16 := hid hM.n16
  have HB0 := hid (HBA.out.trans (hX.b.bel.mono hsa))
  have HSB := hid (HS.out.below (HB0.out))
  obtain ⟨L, hL⟩ : ∃ L, L = cands S (min len2 40) := ⟨_, rfl⟩
  have HLM := hid (show ∀ x ∈ L, ∃ i, i < len2 ∧ i < 40 ∧ (S i).q = false ∧ x = (i + 1, (S i).t) from fun x hx => by
    rw [hL] at hx
    obtain ⟨i, h1, h2, h3⟩ := cands_mem.1 hx
    exact ⟨i, by omega, by omega, h2, h3⟩)
  have HLB := hid (show ∀ x ∈ L, x.1 < 4294967296 ∧ x.2 < 256 from fun x hx => by
    obtain ⟨i, h1, h2, h3, rfl⟩ := HLM.out x hx
    obtain ⟨_, _, _, _, _, _, _, h9⟩ := HSB.out i h1
    exact ⟨(by simp only; omega), h9⟩)
  have HRD := hid (show RdC wb va L from by have h1 := hX.la; rw [← hL] at h1; exact RdC.of_own h1 HLB.out)
  have HLL := hid (show L.length ≤ 40 by rw [hL]; have := cands_len S (min len2 40); omega)
  have HLN := hid (show (L.map Prod.fst).Nodup by rw [hL]; exact cands_nodup _ _)
  rw [← hpm]
  obtain ⟨al, cl, rfl, hcl1, hcl2⟩ := HRD.out.len
  obtain ⟨ln, hln⟩ : ∃ n, n = L.length := ⟨_, rfl⟩
  rw [← hln] at hcl1 HRD HLL ⊢
  have HLE := hid hln
  have hln40 := HLL.out
  obtain ⟨f, hf⟩ : ∃ f, f = fun r => m.leave r L t0 (K : Int) := ⟨_, rfl⟩
  have HF := hid (show ∀ i, f i = m.leave i L t0 (K : Int) from fun i => by rw [hf])
  have HCH := hid (show ∀ W, Below wb.heap.size wb W → Calls Try.prog 26 #[.pointer (some ⟨pm, 0, none⟩), .slice al ln cl, .int .u8 (t0 : Nat), .int .i64 (K : Nat)] W (ChoIs W (best15 f R)) from fun W hW => by
    rw [← HMR.out, hf]
    exact choose15_any W pm m _ L t0 K (HM.out.below hW HPL.out) (HRD.out.below hW) (by have := HLE.out; omega) HT0.out HLB.out)
  clear hM hX hL hln hf hpm
  have HC := hid (HCH.out wb (Below.refl _ _))
  cases hbest : best15 f R with
  | none =>
    rw [hbest] at HC
    have HBE := hid hbest
    clear hbest
    go_upto_region 6 with (first
      | (go_at_call 26; (refine HC.out.mono ?_); rintro e w2 ⟨hb2, rfl⟩; have HB2 := hid hb2; clear hb2)
      | fail)
    obtain ⟨y, hy⟩ : ∃ x, x = w2.alloc (.cells #[.int .i64 0, .slice none 0 0] 62) := ⟨_, rfl⟩
    have hby : Below w2.heap.size w2 y := by rw [hy]; exact (Below.refl _ _).alloc (Nat.le_refl _) _
    have hgy : y.heap[w2.heap.size]? = some (.cells #[.int .i64 0, .slice none 0 0] 62 (0, 0)) := by rw [hy]; exact heap_alloc_new w2 _
    obtain ⟨pb, hpb⟩ : ∃ p, p = w2.heap.size := ⟨_, rfl⟩
    rw [← hpb] at hgy
    rw [← hy, ← hpb]
    have HYB := hid (HB2.out.trans (hby.mono HB2.out.size))
    have HGY := hid hgy
    have c0 : y.cell? ⟨pb, 0, none⟩ = some (.int .i64 0) := (cell_of_row _ _ _ _ _ _ hgy).trans rfl
    have c1 : y.cell? ⟨pb, 1, none⟩ = some (.slice none 0 0) := (cell_of_row _ _ _ _ _ _ hgy).trans rfl
    have HPB := hid (show pb < y.heap.size from (Array.getElem?_eq_some_iff.1 hgy).1)
    clear hy hby hgy hpb
    have hw0 : Go.RowKit.wrap64 ((ln : Int) - 1) = (ln : Int) - 1 := by unfold Go.RowKit.wrap64; omega
    go_wp2_with fail
    clear hw0
    go_loopw [20, 21] (fun tv i wr => ∃ (k : Nat) (z : Int), i = .int .i64 z ∧ z = (ln : Int) - 1 - k ∧ k ≤ ln ∧ wr.ownsRow y.heap.size 80 2 tv k (ccels (L.reverse.take k)) ∧ Below y.heap.size y wr) (fun _ i _ => (intOf i + 1).toNat)
    case atStart => exact ⟨0, _, rfl, by omega, Nat.zero_le _, World.ownsRow_nil _ _ _ _, Below.refl _ _⟩
    case round =>
      obtain ⟨k, z, rfl, hz, hk, ho, hb⟩ := hrel
      have HB := hid hb
      have hsz := hb.size
      have HO := hid ho
      by_cases hkn : k < ln
      · obtain ⟨j, hj⟩ : ∃ j : Nat, j = ln - 1 - k := ⟨_, rfl⟩
        have hzj : z = (j : Int) := by omega
        subst hzj
        have hjl : j < ln := by omega
        have hji : (j : Int) < (ln : Int) := by omega
        have hj0 : (0 : Int) ≤ (j : Int) := by omega
        obtain ⟨x, hx⟩ : ∃ x, L[j]? = some x := ⟨_, List.getElem?_eq_getElem (by have := HLE.out; omega)⟩
        have hxr : L.reverse[k]? = some x := by rw [List.getElem?_reverse (by have := HLE.out; omega), ← HLE.out, ← hj]; exact hx
        obtain ⟨b1x, b2x, g, off, rfl, hg, z0, z1⟩ := (HRD.out.below (HYB.out.trans (hb.mono HYB.out.size))).at hx
        have HX := hid (take_snoc' _ _ _ hxr)
        have hwz : Go.RowKit.wrap64 ((j : Int) - 1) = (j : Int) - 1 := by unfold Go.RowKit.wrap64; omega
        have HWZ := hid hwz
        have HZ := hid hz
        have HKN := hid hkn
        have hk40 : k ≤ 40 := by omega
        have hsrc := hid (SrcC.lit wr #[.int .u32 (x.1 : Nat), .int .u8 (x.2 : Nat)] 80 1 [.int .u32 (x.1 : Nat), .int .u8 (x.2 : Nat)] rfl)
        have hof := hid (owns_below ho ((Below.refl _ _).alloc (Nat.le_refl _) (.cells #[.int .u32 (x.1 : Nat), .int .u8 (x.2 : Nat)] 80)))
        have HZZ := hid (show (wr.alloc (.cells #[.int .u32 (x.1 : Nat), .int .u8 (x.2 : Nat)] 80)).heap.size = wr.heap.size + 1 by simp)
        clear hb ho hx hxr hj hz hkn hwz b1x b2x
        go_wp2_with (first
          | (at_builtin; (refine appsw (by rfl) 56 80 (.tmp 60) (.tmp 65) rfl y.heap.size 2 8 _ Try.underlying56 infoCand rfl (by decide) _ _ k 1 (k + 1) _ _ rfl rfl hof.out hsrc.out rfl (by intro y hy; simp only [List.mem_cons, List.not_mem_nil, or_false] at hy; rcases hy with rfl | rfl <;> rfl) rfl (by omega) (by omega) (by have := HZZ.out; omega) ?_); intro ad9 cp9 wA hoA hgA; have HOA := hid hoA; have HBA2 := hid (show Below y.heap.size y wA from (HB.out.alloc (by omega) _).grown hgA (by have := HZZ.out; omega) (fun g hg => (World.ownsRow.lt HO.out g hg).1)); clear hoA hgA)
          | fail)
        go_roundw
        case rel => exact ⟨k + 1, _, rfl, by have := HWZ.out; have := HZ.out; omega, HKN.out, by rw [HX.out, ccels_snoc]; exact HOA.out, HBA2.out⟩
        case measure => have := HWZ.out; simp [intOf] <;> omega
      · have hz1 : ¬ (0 : Int) ≤ z := by omega
        have hz2 : z < 0 := by omega
        have hkl : k = L.reverse.length := by have := HLE.out; rw [List.length_reverse]; omega
        have HRV := hid (show RdC wr _ L.reverse from by
          have h1 := ho
          rw [hkl, List.take_length] at h1
          exact RdC.of_own h1 (fun x hx => HLB.out x (List.mem_reverse.1 hx)))
        have HW := hid (HYB.out.trans (hb.mono HYB.out.size))
        have HC2 := hid (choose15_any wr pm m _ L.reverse t0 K (HM.out.below HW.out HPL.out) HRV.out (by rw [List.length_reverse, ← HLE.out]; omega) HT0.out (fun x hx => HLB.out x (List.mem_reverse.1 hx)))
        rw [show (fun r => m.leave r L.reverse t0 (K : Int)) = f from by funext r; rw [HF.out r]; exact leave_rev HLN.out r t0 K, HMR.out, HBE.out] at HC2
        clear hb ho hkl hz hkn
        go_upto_region 12 with (first
          | (go_at_call 26; (refine HC2.out.mono ?_); rintro e w3 ⟨hb3, rfl⟩; have HB3 := hid (HB.out.trans (hb3.mono HB.out.size)); clear hb3)
          | fail)
        obtain ⟨y2, hy2⟩ : ∃ x, x = w3.alloc (.cells #[.int .i64 0, .slice none 0 0] 62) := ⟨_, rfl⟩
        have hby2 : Below w3.heap.size w3 y2 := by rw [hy2]; exact (Below.refl _ _).alloc (Nat.le_refl _) _
        have hgy2 : y2.heap[w3.heap.size]? = some (.cells #[.int .i64 0, .slice none 0 0] 62 (0, 0)) := by rw [hy2]; exact heap_alloc_new w3 _
        obtain ⟨pc, hpc⟩ : ∃ p, p = w3.heap.size := ⟨_, rfl⟩
        rw [← hpc] at hgy2
        rw [← hy2, ← hpc]
        have HYC := hid (HB3.out.trans (hby2.mono HB3.out.size))
        have HGC := hid hgy2
        clear hy2 hpc hby2 hgy2
        have d0 : y2.cell? ⟨pb, 0, none⟩ = some (.int .i64 0) := (HYC.out.cell (p := ⟨pb, 0, none⟩) HPB.out).trans c0
        have d1 : y2.cell? ⟨pb, 1, none⟩ = some (.slice none 0 0) := (HYC.out.cell (p := ⟨pb, 1, none⟩) HPB.out).trans c1
        go_wp2_with fail
        go_loopw [78] (fun i wr => i = .int .i64 0 ∧ wr = y2) (fun i _ => 0)
        case atStart => exact ⟨rfl, rfl⟩
        case round =>
          obtain ⟨rfl, rfl⟩ := hrel
          have c2 : wr.cell? ⟨pc, 0, none⟩ = some (.int .i64 0) := (cell_of_row _ _ _ _ _ _ HGC.out).trans rfl
          have c3 : wr.cell? ⟨pc, 1, none⟩ = some (.slice none 0 0) := (cell_of_row _ _ _ _ _ _ HGC.out).trans rfl
          have HSM := hid (same_any wr (.slice none 0 0) (.slice none 0 0) [] [] (RdV.nil _) (RdV.nil _))
          go_wp2_with (first
            | (go_at_call 30; (refine HSM.out.mono ?_); rintro e w4 ⟨rfl, hb4⟩; have HB4 := hid (HYC.out.trans (hb4.mono HYC.out.size)); clear hb4)
            | fail)
          go_ret
          exact ⟨rfl, HB0.out.trans ((HYB.out.trans (HB4.out.mono HYB.out.size)).mono HB0.out.size)⟩
  | some p =>
    obtain ⟨bb, p⟩ := p
    rw [hbest] at HC
    have HBE := hid hbest
    clear hbest
    go_upto_region 6 with (first
      | (go_at_call 26; (refine HC.out.mono ?_); rintro e w2 ⟨hb2, u, rfl, hu⟩; have hu2 : w2.ownsRow wb.heap.size 33 1 u p.length (p.map fun c => uv c.1) := hu; obtain ⟨au, cu, rfl, -, -⟩ := owns_slice hu2; have HB2 := hid hb2; have HU2 := hid hu2; clear hb2 hu hu2)
      | fail)
    obtain ⟨y, hy⟩ : ∃ x, x = w2.alloc (.cells #[.int .i64 ((bb : Nat) : Int), .slice au p.length cu] 62) := ⟨_, rfl⟩
    have hby : Below w2.heap.size w2 y := by rw [hy]; exact (Below.refl _ _).alloc (Nat.le_refl _) _
    have hgy : y.heap[w2.heap.size]? = some (.cells #[.int .i64 ((bb : Nat) : Int), .slice au p.length cu] 62 (0, 0)) := by rw [hy]; exact heap_alloc_new w2 _
    obtain ⟨pb, hpb⟩ : ∃ p, p = w2.heap.size := ⟨_, rfl⟩
    rw [← hpb] at hgy
    rw [← hy, ← hpb]
    have HYB := hid (HB2.out.trans (hby.mono HB2.out.size))
    have HGY := hid hgy
    have c0 : y.cell? ⟨pb, 0, none⟩ = some (.int .i64 ((bb : Nat) : Int)) := (cell_of_row _ _ _ _ _ _ hgy).trans rfl
    have c1 : y.cell? ⟨pb, 1, none⟩ = some (.slice au p.length cu) := (cell_of_row _ _ _ _ _ _ hgy).trans rfl
    have HPB := hid (show pb < y.heap.size from (Array.getElem?_eq_some_iff.1 hgy).1)
    have HUY := hid (owns_below HU2.out hby)
    have HU := hid (show RdV y (.slice au p.length cu) ((p.map Prod.fst).map uv) from by rw [List.map_map]; exact RdV.of_own HUY.out)
    have HPW := hid (show w2.heap.size ≤ pb from by rw [hpb]; exact Nat.le_refl _)
    clear hy hby hgy hpb
    have hw0 : Go.RowKit.wrap64 ((ln : Int) - 1) = (ln : Int) - 1 := by unfold Go.RowKit.wrap64; omega
    go_wp2_with fail
    clear hw0
    go_loopw [20, 21] (fun tv i wr => ∃ (k : Nat) (z : Int), i = .int .i64 z ∧ z = (ln : Int) - 1 - k ∧ k ≤ ln ∧ wr.ownsRow y.heap.size 80 2 tv k (ccels (L.reverse.take k)) ∧ Below y.heap.size y wr) (fun _ i _ => (intOf i + 1).toNat)
    case atStart => exact ⟨0, _, rfl, by omega, Nat.zero_le _, World.ownsRow_nil _ _ _ _, Below.refl _ _⟩
    case round =>
      obtain ⟨k, z, rfl, hz, hk, ho, hb⟩ := hrel
      have HB := hid hb
      have hsz := hb.size
      have HO := hid ho
      by_cases hkn : k < ln
      · obtain ⟨j, hj⟩ : ∃ j : Nat, j = ln - 1 - k := ⟨_, rfl⟩
        have hzj : z = (j : Int) := by omega
        subst hzj
        have hjl : j < ln := by omega
        have hji : (j : Int) < (ln : Int) := by omega
        have hj0 : (0 : Int) ≤ (j : Int) := by omega
        obtain ⟨x, hx⟩ : ∃ x, L[j]? = some x := ⟨_, List.getElem?_eq_getElem (by have := HLE.out; omega)⟩
        have hxr : L.reverse[k]? = some x := by rw [List.getElem?_reverse (by have := HLE.out; omega), ← HLE.out, ← hj]; exact hx
        obtain ⟨b1x, b2x, g, off, rfl, hg, z0, z1⟩ := (HRD.out.below (HYB.out.trans (hb.mono HYB.out.size))).at hx
        have HX := hid (take_snoc' _ _ _ hxr)
        have hwz : Go.RowKit.wrap64 ((j : Int) - 1) = (j : Int) - 1 := by unfold Go.RowKit.wrap64; omega
        have HWZ := hid hwz
        have HZ := hid hz
        have HKN := hid hkn
        have hk40 : k ≤ 40 := by omega
        have hsrc := hid (SrcC.lit wr #[.int .u32 (x.1 : Nat), .int .u8 (x.2 : Nat)] 80 1 [.int .u32 (x.1 : Nat), .int .u8 (x.2 : Nat)] rfl)
        have hof := hid (owns_below ho ((Below.refl _ _).alloc (Nat.le_refl _) (.cells #[.int .u32 (x.1 : Nat), .int .u8 (x.2 : Nat)] 80)))
        have HZZ := hid (show (wr.alloc (.cells #[.int .u32 (x.1 : Nat), .int .u8 (x.2 : Nat)] 80)).heap.size = wr.heap.size + 1 by simp)
        clear hb ho hx hxr hj hz hkn hwz b1x b2x
        go_wp2_with (first
          | (at_builtin; (refine appsw (by rfl) 56 80 (.tmp 60) (.tmp 65) rfl y.heap.size 2 8 _ Try.underlying56 infoCand rfl (by decide) _ _ k 1 (k + 1) _ _ rfl rfl hof.out hsrc.out rfl (by intro y hy; simp only [List.mem_cons, List.not_mem_nil, or_false] at hy; rcases hy with rfl | rfl <;> rfl) rfl (by omega) (by omega) (by have := HZZ.out; omega) ?_); intro ad9 cp9 wA hoA hgA; have HOA := hid hoA; have HBA2 := hid (show Below y.heap.size y wA from (HB.out.alloc (by omega) _).grown hgA (by have := HZZ.out; omega) (fun g hg => (World.ownsRow.lt HO.out g hg).1)); clear hoA hgA)
          | fail)
        go_roundw
        case rel => exact ⟨k + 1, _, rfl, by have := HWZ.out; have := HZ.out; omega, HKN.out, by rw [HX.out, ccels_snoc]; exact HOA.out, HBA2.out⟩
        case measure => have := HWZ.out; simp [intOf] <;> omega
      · have hz1 : ¬ (0 : Int) ≤ z := by omega
        have hz2 : z < 0 := by omega
        have hkl : k = L.reverse.length := by have := HLE.out; rw [List.length_reverse]; omega
        have HRV := hid (show RdC wr _ L.reverse from by
          have h1 := ho
          rw [hkl, List.take_length] at h1
          exact RdC.of_own h1 (fun x hx => HLB.out x (List.mem_reverse.1 hx)))
        have HW := hid (HYB.out.trans (hb.mono HYB.out.size))
        have HC2 := hid (choose15_any wr pm m _ L.reverse t0 K (HM.out.below HW.out HPL.out) HRV.out (by rw [List.length_reverse, ← HLE.out]; omega) HT0.out (fun x hx => HLB.out x (List.mem_reverse.1 hx)))
        rw [show (fun r => m.leave r L.reverse t0 (K : Int)) = f from by funext r; rw [HF.out r]; exact leave_rev HLN.out r t0 K, HMR.out, HBE.out] at HC2
        clear hb ho hkl hz hkn
        go_upto_region 12 with (first
          | (go_at_call 26; (refine HC2.out.mono ?_); rintro e w3 ⟨hb3, u3, rfl, hu3⟩; have hu4 : w3.ownsRow wr.heap.size 33 1 u3 p.length (p.map fun c => uv c.1) := hu3; obtain ⟨av, cv, rfl, -, -⟩ := owns_slice hu4; have HB3 := hid (HB.out.trans (hb3.mono HB.out.size)); have HU3 := hid hu4; clear hb3 hu3 hu4)
          | fail)
        obtain ⟨y2, hy2⟩ : ∃ x, x = w3.alloc (.cells #[.int .i64 ((bb : Nat) : Int), .slice av p.length cv] 62) := ⟨_, rfl⟩
        have hby2 : Below w3.heap.size w3 y2 := by rw [hy2]; exact (Below.refl _ _).alloc (Nat.le_refl _) _
        have hgy2 : y2.heap[w3.heap.size]? = some (.cells #[.int .i64 ((bb : Nat) : Int), .slice av p.length cv] 62 (0, 0)) := by rw [hy2]; exact heap_alloc_new w3 _
        obtain ⟨pc, hpc⟩ : ∃ p, p = w3.heap.size := ⟨_, rfl⟩
        rw [← hpc] at hgy2
        rw [← hy2, ← hpc]
        have HYC := hid (HB3.out.trans (hby2.mono HB3.out.size))
        have HGC := hid hgy2
        have HV := hid (show RdV y2 (.slice av p.length cv) ((p.map Prod.fst).map uv) from by rw [List.map_map]; exact RdV.of_own (owns_below HU3.out hby2))
        have HPC := hid (show pc < y2.heap.size from (Array.getElem?_eq_some_iff.1 hgy2).1)
        clear hy2 hpc hby2 hgy2
        have d0 : y2.cell? ⟨pb, 0, none⟩ = some (.int .i64 ((bb : Nat) : Int)) := (HYC.out.cell (p := ⟨pb, 0, none⟩) HPB.out).trans c0
        have d1 : y2.cell? ⟨pb, 1, none⟩ = some (.slice au p.length cu) := (HYC.out.cell (p := ⟨pb, 1, none⟩) HPB.out).trans c1
        have HU9 := hid (HU.out.all HYC.out)
        obtain ⟨hbbR, hfb, -⟩ := best15_some HBE.out
        rw [HF.out] at hfb
        have HBB := hid hbbR
        have HWH := hid (show ∀ x ∈ p, m.where x.1 = some bb from fun x hx => by
          obtain ⟨nn, _, hpn⟩ := Mx.leave_sub hfb
          rw [hpn] at hx
          exact (HONE.out.row_where (by rw [HMR.out]; exact hbbR) (who_mem (List.mem_of_mem_take hx)).2.1).1)
        have hp16 : p.length ≤ 16 := Nat.le_trans (Mx.leave_len hfb) HN16.out
        have HWY := hid (HYB.out.trans (HYC.out.mono HYB.out.size))
        clear hfb hbbR
        go_wp2_with fail
        go_loopw [78] (fun i wr => ∃ k : Nat, i = .int .i64 k ∧ k ≤ p.length ∧ Below y2.heap.size y2 wr) (fun i _ => p.length - (intOf i).toNat)
        case atStart => exact ⟨0, rfl, Nat.zero_le _, Below.refl _ _⟩
        case round =>
          obtain ⟨k, rfl, hk, hb⟩ := hrel
          have HB9 := hid hb
          have e0 : wr.cell? ⟨pb, 0, none⟩ = some (.int .i64 ((bb : Nat) : Int)) := (hb.cell (p := ⟨pb, 0, none⟩) (Nat.lt_of_lt_of_le HPB.out HYC.out.size)).trans d0
          by_cases hkn : k < p.length
          · have hki : (k : Int) < (p.length : Int) := by omega
            obtain ⟨x, hx⟩ : ∃ x, p[k]? = some x := ⟨_, List.getElem?_eq_getElem hkn⟩
            obtain ⟨-, g, off, rfl, hg, hcell⟩ := RdV.at1 (HU9.out.all hb) k (uv x.1) (by rw [List.getElem?_map, List.getElem?_map, hx]; rfl)
            have hc0 : wr.cell? ⟨g, off + k, none⟩ = some (.int .u32 (x.1 : Nat)) := hcell
            have HOF := hid (of_some wr pm m x.1 bb (HM.out.below (HWY.out.trans (hb.mono HWY.out.size)) HPL.out) (HWH.out x (List.mem_of_getElem? hx)))
            clear hb hx hcell
            go_wp2_with (first
              | (go_at_call 32; (with_reducible refine HOF.out.mono ?_); rintro e w5 ⟨v5, rfl, hv5, -, hb5⟩; have f0 := (hb5.cell (p := ⟨pb, 0, none⟩) (World.block_lt_of_cell? _ _ e0)).trans e0; have HB5 := hid (HB9.out.trans (hb5.mono HB9.out.size)); clear hb5 hv5)
              | fail)
            go_roundw
            case rel => exact ⟨k + 1, by go_num, by omega, HB5.out⟩
            case measure => simp [intOf]; omega
          · have hki : ¬ (k : Int) < (p.length : Int) := by omega
            have e1 : wr.cell? ⟨pb, 1, none⟩ = some (.slice au p.length cu) := (hb.cell (p := ⟨pb, 1, none⟩) (Nat.lt_of_lt_of_le HPB.out HYC.out.size)).trans d1
            have e2 : wr.cell? ⟨pc, 0, none⟩ = some (.int .i64 ((bb : Nat) : Int)) := (hb.cell (p := ⟨pc, 0, none⟩) HPC.out).trans ((cell_of_row _ _ _ _ _ _ HGC.out).trans rfl)
            have e3 : wr.cell? ⟨pc, 1, none⟩ = some (.slice av p.length cv) := (hb.cell (p := ⟨pc, 1, none⟩) HPC.out).trans ((cell_of_row _ _ _ _ _ _ HGC.out).trans rfl)
            have HSM := hid (same_any wr _ _ _ _ (HU9.out.all hb) (HV.out.all hb))
            clear hb
            go_wp2_with (first
              | (go_at_call 30; (with_reducible refine HSM.out.mono ?_); rintro e w4 ⟨rfl, hb4⟩; have HB4 := hid (HB9.out.trans (hb4.mono HB9.out.size)); clear hb4)
              | fail)
            go_ret
            exact ⟨by simp, HB0.out.trans ((HWY.out.trans (HB4.out.mono HWY.out.size)).mono HB0.out.size)⟩

/-! ### THE ROW's STEP -/
set_option maxRecDepth 100000 in
theorem lifted (os : Os) (started : os.Started) (H : Type) (enc : TypeId × Value → H) :
    ReturnsInHanded {} Try.checked os 8 .any (Rows.victimApartSpec.pre6 enc Try.prog Try.f8 Rows.victimApartRow.domain false) (Rows.victimApartSpec.post enc Try.prog Try.f8 false true false false) := by
  refine returnsInHanded_of_change (C := Try.checked) own started (by kernel_rfl) Try.func8
    (ChangeSpec.witness6 (enc := enc) (C := Try.checked) false ⟨#[], #[.int .u8 0, .int .u8 0, .slice none 0 0, .int .u16 0, .int .u8 0, .int .u8 0], []⟩ 8 (by kernel_rfl) (by kernel_rfl) (by kernel_rfl) (by kernel_rfl)) ?_
  intro W base args ds gs before hval0 hW hcnd _
  have hval : ∀ (j : Nat) t v, Try.f8.params[j]? = some t → args[j]? = some v → Value.okWide Try.prog W .any base t v := hval0
  have hW' := hW
  obtain ⟨p, q, hA0, hV, rfl, hfz, hnd⟩ := hW
  have hA : DataW.TrodAll enc Try.prog W 0 (fun _ => true) true Try.f8.params.toList args.toList ds p := hA0
  rw [Try.params8] at hA hval
  obtain ⟨v0, vs0, d0, ds0, p0, q0, hargs, rfl, rfl, h0, r0⟩ := trodAll_cons hA
  obtain ⟨v1, vs1, d1, ds1, p1, q1, rfl, rfl, rfl, h1, r1⟩ := trodAll_cons r0
  obtain ⟨v2, vs2, d2, ds2, p2, q2, rfl, rfl, rfl, h2, r2⟩ := trodAll_cons r1
  obtain ⟨v3, vs3, d3, ds3, p3, q3, rfl, rfl, rfl, h3, r3⟩ := trodAll_cons r2
  obtain ⟨v4, vs4, d4, ds4, p4, q4, rfl, rfl, rfl, h4, r4⟩ := trodAll_cons r3
  obtain ⟨v5, vs5, d5, ds5, p5, q5, rfl, rfl, rfl, h5, r5⟩ := trodAll_cons r4
  obtain ⟨rfl, rfl, rfl⟩ := trodAll_nil r5
  obtain rfl : args = #[v0, v1, v2, v3, v4, v5] := by cases args; simp_all
  obtain ⟨rfl, rfl⟩ := trodVars_none hV
  have k0 := h0
  have lt0 : ∀ x ∈ p0, x.block < W.heap.size := by obtain ⟨m, hm⟩ := k0; exact DataW.trod_lt m _ _ _ hm
  have k1 := h1
  have lt1 : ∀ x ∈ p1, x.block < W.heap.size := by obtain ⟨m, hm⟩ := k1; exact DataW.trod_lt m _ _ _ hm
  have k2 := h2
  have lt2 : ∀ x ∈ p2, x.block < W.heap.size := by obtain ⟨m, hm⟩ := k2; exact DataW.trod_lt m _ _ _ hm
  have k3 := h3
  have lt3 : ∀ x ∈ p3, x.block < W.heap.size := by obtain ⟨m, hm⟩ := k3; exact DataW.trod_lt m _ _ _ hm
  have k4 := h4
  have lt4 : ∀ x ∈ p4, x.block < W.heap.size := by obtain ⟨m, hm⟩ := k4; exact DataW.trod_lt m _ _ _ hm
  have k5 := h5
  have lt5 : ∀ x ∈ p5, x.block < W.heap.size := by obtain ⟨m, hm⟩ := k5; exact DataW.trod_lt m _ _ _ hm
  obtain ⟨a0, rfl, rfl, rfl, w0⟩ := open_int Try.underlying5 (hval 0 5 v0 rfl rfl) h0
  obtain ⟨a1, rfl, rfl, rfl, w1⟩ := open_int Try.underlying5 (hval 1 5 v1 rfl rfl) h1
  obtain ⟨a2, len2, cap2, rfl⟩ := okWide_slice Try.underlying54 (hval 2 54 v2 rfl rfl)
  have w2 : IsSt15 W a2 len2 cap2 := isSt15_of h2
  obtain ⟨a3, rfl, rfl, rfl, w3⟩ := open_int Try.underlying55 (hval 3 55 v3 rfl rfl) h3
  obtain ⟨a4, rfl, rfl, rfl, w4⟩ := open_int Try.underlying5 (hval 4 5 v4 rfl rfl) h4
  obtain ⟨a5, rfl, rfl, rfl, w5⟩ := open_int Try.underlying5 (hval 5 5 v5 rfl rfl) h5
  clear hA0 hval0
  refine (walk a0 a1 a2 len2 cap2 a3 a4 a5 W w0 w1 w2 w3 w4 w5).mono fun e W' ⟨he, bel⟩ => ?_
  subst he
  exact ⟨_, rfl, _, _, _, [], _, [], hW', trodAll_mk1 (shut_bool Try.underlying4 _), (trodAll_cons_mk (Below.trod laidOut (by kernel_rfl) (of_decide_eq_true (by kernel_rfl)) k0 bel lt0) (trodAll_cons_mk (Below.trod laidOut (by kernel_rfl) (of_decide_eq_true (by kernel_rfl)) k1 bel lt1) (trodAll_cons_mk (Below.trod laidOut (by kernel_rfl) (of_decide_eq_true (by kernel_rfl)) k2 bel lt2) (trodAll_cons_mk (Below.trod laidOut (by kernel_rfl) (of_decide_eq_true (by kernel_rfl)) k3 bel lt3) (trodAll_cons_mk (Below.trod laidOut (by kernel_rfl) (of_decide_eq_true (by kernel_rfl)) k4 bel lt4) (trodAll_cons_mk (Below.trod laidOut (by kernel_rfl) (of_decide_eq_true (by kernel_rfl)) k5 bel lt5) trodAll_mk0)))))), rfl, bel.frame _, fun h => by cases h⟩

theorem over : Rows.victimApartRow.holds Try.pinned (OpenSpec.ofChange Rows.victimApartSpec) :=
  OpenClaim.holds_of_wide 8 Try.f8 rfl rfl rfl rfl rfl rfl rfl ⟨rfl, rfl, rfl, rfl, rfl⟩ rfl rfl rfl rfl rfl (by kernel_rfl) Try.func8 (by kernel_rfl)
    (of_decide_eq_true (by kernel_rfl)) (by unfold Func.isWrapper; first | (rw [if_pos (by decide +kernel)]; kernel_rfl) | (rw [if_neg (by decide +kernel)]; exact ⟨rfl, rfl⟩))
    (fun os started H enc _ => lifted os started H enc)

/-- THE STATEMENT -/
theorem victimApart_holds : Rows.VictimApartSaid := over
#print axioms victimApart_holds
end Go.Proofs.Ytdongghjchnpbaa.victimApart
