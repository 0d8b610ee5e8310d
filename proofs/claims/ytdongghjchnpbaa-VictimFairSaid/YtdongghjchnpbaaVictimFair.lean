/-
  Nobody goes for his equal: whoever has to go is of a lesser tier than who asks, stands in the row that is told, and is no longer there once removed; then there is room, and without the last of them there isn't; where none is told no row has room.
  (The frame behind the walk is the guide's shell, at these parameters.)
-/
import Derived.Test.YtdongghjchnpbaaRows
import Derived.WalkKit
import Derived.Test.YtdongghjchnpbaaVcA
import Derived.Test.YtdongghjchnpbaaVcP
import Derived.ProofKit
import Derived.Deep.Cut
import Derived.Deep.CutRange
import Derived.Deep.CutBlock
import Derived.Deep.Grids
import Derived.OpenShut
import Derived.ShutString
import Derived.ChangeOld
import Derived.Below
namespace Go.Proofs.Ytdongghjchnpbaa.victimFair
open Go.ChangeShapes Go.WideShapes Go.ChangeAt Go.RowKit
open Go.ChangeMaps (open_string shut_string)
set_option linter.unusedVariables false

theorem own : ownKnob Try.prog.godebug = none := by kernel_rfl
theorem laidOut : laidOutB Try.prog = true := by kernel_rfl

set_option linter.unusedSimpArgs false
set_option maxRecDepth 100000 in
set_option maxHeartbeats 16000000 in
theorem walk (a0 : Int) (a1 : Int) (a2 : Option Addr) (len2 cap2 : Nat) (a3 : Int) (a4 : Int) (a5 : Int) (w : World) (w0 : (Lit.int .u8 a0).wf = true) (w1 : (Lit.int .u8 a1).wf = true) (w2 : IsSt15 w a2 len2 cap2) (w3 : (Lit.int .u16 a3).wf = true) (w4 : (Lit.int .u8 a4).wf = true) (w5 : (Lit.int .u8 a5).wf = true) :
    Calls Try.prog 5 #[.int .u8 a0, .int .u8 a1, .slice a2 len2 cap2, .int .u16 a3, .int .u8 a4, .int .u8 a5] w fun e w' => e = .returned (.bool true) ∧ Below w.heap.size w w' := by
  have bd0 := bounds_u8 w0
  have bd1 := bounds_u8 w1
  have bd3 := bounds_u16 w3
  have bdT := bounds_u8 w4
  have bdK := bounds_u8 w5
  obtain ⟨r0, rfl⟩ := Int.eq_ofNat_of_zero_le (show 0 ≤ a0 by omega)
  obtain ⟨n0, rfl⟩ := Int.eq_ofNat_of_zero_le (show 0 ≤ a1 by omega)
  obtain ⟨d0, rfl⟩ := Int.eq_ofNat_of_zero_le (show 0 ≤ a3 by omega)
  obtain ⟨t0, rfl⟩ := Int.eq_ofNat_of_zero_le (show 0 ≤ a4 by omega)
  obtain ⟨k0, rfl⟩ := Int.eq_ofNat_of_zero_le (show 0 ≤ a5 by omega)
  obtain ⟨S, hS⟩ := w2.all
  obtain ⟨hlc, hcm⟩ := w2.bounds
  have HS := hid hS
  have HR0 := hid (show r0 < 256 by omega)
  have HN0 := hid (show n0 < 256 by omega)
  have HD0 := hid (show d0 < 65536 by omega)
  have HT0 := hid (show t0 < 256 by omega)
  obtain ⟨R, hR⟩ : ∃ R, R = 1 + r0 % 8 := ⟨_, rfl⟩
  obtain ⟨K, hK⟩ : ∃ K, K = 1 + k0 % 16 := ⟨_, rfl⟩
  obtain ⟨r7, hr7⟩ : ∃ q, q = r0 % 8 := ⟨_, rfl⟩
  obtain ⟨k7, hk7⟩ : ∃ q, q = k0 % 16 := ⟨_, rfl⟩
  have e1 : (r0 : Int) % 8 = (r7 : Int) := by omega
  have e2 : (r0 : Int).tmod 8 = (r7 : Int) := by rw [Int.tmod_eq_emod_of_nonneg (by omega)]; exact e1
  have e3 : 1 + (r7 : Int) = (R : Int) := by omega
  have f1 : (k0 : Int) % 16 = (k7 : Int) := by omega
  have f2 : (k0 : Int).tmod 16 = (k7 : Int) := by rw [Int.tmod_eq_emod_of_nonneg (by omega)]; exact f1
  have f3 : 1 + (k7 : Int) = (K : Int) := by omega
  have b1 : (r7 : Int) < 8 := by omega
  have b2 : (k7 : Int) < 16 := by omega
  have b3 : (r0 : Int) < 256 := by omega
  have b4 : (k0 : Int) < 256 := by omega
  have hR8 : R ≤ 8 := by omega
  have hK1 : 1 ≤ K := by omega
  have hK16 : K ≤ 16 := by omega
  have HRR := hid hR
  clear w0 w1 w2 w3 w4 w5 bd0 bd1 bd3 bdT bdK hS hR hK hr7 hk7
  go_enter Try.func5, Try.ntmps5
  go_wp2_with fail
  refine (awake15_any w).mono ?_
  rintro e wa ⟨rfl, hba⟩
  have HBA := hid hba
  have hsa := hba.size
  clear hba
  go_wp2_with fail
  refine (build15_any wa r0 n0 d0 HR0.out HN0.out HD0.out a2 len2 cap2 S hlc hcm (HS.out.below (HBA.out))).mono ?_
  rintro e wb ⟨lo, G, m, va, vb, rfl, hX⟩
  obtain ⟨pm, hpm⟩ : ∃ p, p = wa.heap.size := ⟨_, rfl⟩
  have hM : MxAt wb pm m := by rw [hpm]; exact hX.b.at_
  have HM := hid hM
  have HPL := hid hM.lt
  have HPA := hid (show w.heap.size ≤ pm by rw [hpm]; exact hsa)
  have HONE := hid hX.b.one
  have HMR := hid (show m.r = R from hX.b.mr.trans HRR.out.symm)
  have HN16 := hid hM.n16
  have HB0 := hid (HBA.out.trans (hX.b.bel.mono hsa))
  have HSB := hid (HS.out.below (HB0.out))
  obtain ⟨L, hL⟩ : ∃ L, L = cands S (min len2 40) := ⟨_, rfl⟩
  have HLM := hid (show ∀ x ∈ L, ∃ i, i < len2 ∧ i < 40 ∧ (S i).q = false ∧ x = (i + 1, (S i).t) from fun x hx => by
    rw [hL] at hx
    obtain ⟨i, h1, h2, h3⟩ := cands_mem.1 hx
    exact ⟨i, by omega, by omega, h2, h3⟩)
  have HLB := hid (show ∀ x ∈ L, x.1 < 4294967296 ∧ x.2 < 256 from fun x hx => by
    obtain ⟨i, h1, h2, h3, rfl⟩ := HLM.out x hx
    obtain ⟨_, _, _, _, _, _, _, h9⟩ := HSB.out i h1
    exact ⟨(by simp only; omega), h9⟩)
  have HRD := hid (show RdC wb va L from by have h1 := hX.la; rw [← hL] at h1; exact RdC.of_own h1 HLB.out)
  have HLL := hid (show L.length ≤ 40 by rw [hL]; have := cands_len S (min len2 40); omega)
  have HLN := hid (show (L.map Prod.fst).Nodup by rw [hL]; exact cands_nodup _ _)
  rw [← hpm]
  obtain ⟨al, cl, rfl, hcl1, hcl2⟩ := HRD.out.len
  obtain ⟨ln, hln⟩ : ∃ n, n = L.length := ⟨_, rfl⟩
  rw [← hln] at hcl1 HRD HLL ⊢
  have HLE := hid hln
  have hln40 := HLL.out
  obtain ⟨f, hf⟩ : ∃ f, f = fun r => m.leave r L t0 (K : Int) := ⟨_, rfl⟩
  have HF := hid (show ∀ i, f i = m.leave i L t0 (K : Int) from fun i => by rw [hf])
  have HCH := hid (show ∀ W, Below wb.heap.size wb W → Calls Try.prog 26 #[.pointer (some ⟨pm, 0, none⟩), .slice al ln cl, .int .u8 (t0 : Nat), .int .i64 (K : Nat)] W (ChoIs W (best15 f R)) from fun W hW => by
    rw [← HMR.out, hf]
    exact choose15_any W pm m _ L t0 K (HM.out.below hW HPL.out) (HRD.out.below hW) (by have := HLE.out; omega) HT0.out HLB.out)
  clear hM hX hL hln hf hpm
  have HC := hid (HCH.out wb (Below.refl _ _))
  cases hbest : best15 f R with
  | none =>
    rw [hbest] at HC
    have HBE := hid hbest
    clear hbest
    go_upto_region 6 with (first
      | (go_at_call 26; (refine HC.out.mono ?_); rintro e w2 ⟨hb2, rfl⟩; have HB2 := hid hb2; clear hb2)
      | fail)
    obtain ⟨y, hy⟩ : ∃ x, x = w2.alloc (.cells #[.int .i64 0, .slice none 0 0] 62) := ⟨_, rfl⟩
    have hby : Below w2.heap.size w2 y := by rw [hy]; exact (Below.refl _ _).alloc (Nat.le_refl _) _
    have hgy : y.heap[w2.heap.size]? = some (.cells #[.int .i64 0, .slice none 0 0] 62 (0, 0)) := by rw [hy]; exact heap_alloc_new w2 _
    obtain ⟨pb, hpb⟩ : ∃ p, p = w2.heap.size := ⟨_, rfl⟩
    rw [← hpb] at hgy
    rw [← hy, ← hpb]
    have HYB := hid (HB2.out.trans (hby.mono HB2.out.size))
    have HGY := hid hgy
    have c0 : y.cell? ⟨pb, 0, none⟩ = some (.int .i64 0) := (cell_of_row _ _ _ _ _ _ hgy).trans rfl
    have c1 : y.cell? ⟨pb, 1, none⟩ = some (.slice none 0 0) := (cell_of_row _ _ _ _ _ _ hgy).trans rfl
    have HPB := hid (show pb < y.heap.size from (Array.getElem?_eq_some_iff.1 hgy).1)
    clear hy hby hgy hpb
    have HNR := hid (show ∀ i, i < R → ¬ K ≤ (m.free i).length from fun i hi h => by
      have h1 := best15_none HBE.out i hi
      rw [HF.out, leave_room hK1 h] at h1
      cases h1)
    clear c0 c1
    go_wp2_with fail
    go_loopw [56] (fun i wr => ∃ k : Nat, i = .int .i64 k ∧ k ≤ R ∧ Below y.heap.size y wr) (fun i _ => R - (intOf i).toNat)
    case atStart => exact ⟨0, rfl, Nat.zero_le _, Below.refl _ _⟩
    case round =>
      obtain ⟨k, rfl, hk, hb⟩ := hrel
      have HB := hid hb
      have HW := hid (HYB.out.trans (hb.mono HYB.out.size))
      clear hb
      by_cases hkn : k < R
      · have hki : (k : Int) < (R : Int) := by omega
        have HFR := hid (free_any wr pm k m (HM.out.below HW.out HPL.out) (by rw [HMR.out]; exact hkn))
        have hno := HNR.out k hkn
        obtain ⟨F, hF⟩ : ∃ F, F = (m.free k).length := ⟨_, rfl⟩
        rw [← hF] at HFR hno
        have hlei : ¬ (K : Int) ≤ (F : Int) := by omega
        clear hF hno
        go_wp2_with (first
          | (go_at_call 31; (with_reducible refine HFR.out.mono ?_); rintro e w3 ⟨rfl, hb3⟩; have HB3 := hid (HB.out.trans (hb3.mono HB.out.size)); clear hb3)
          | fail)
        go_roundw
        case rel => exact ⟨k + 1, by go_num, by omega, HB3.out⟩
        case measure => simp [intOf]; omega
      · have hki : ¬ (k : Int) < (R : Int) := by omega
        go_wp2_with fail
        go_ret
        exact ⟨rfl, HB0.out.trans (HW.out.mono HB0.out.size)⟩
  | some p =>
    obtain ⟨bb, p⟩ := p
    rw [hbest] at HC
    have HBE := hid hbest
    clear hbest
    go_upto_region 6 with (first
      | (go_at_call 26; (refine HC.out.mono ?_); rintro e w2 ⟨hb2, u, rfl, hu⟩; have hu2 : w2.ownsRow wb.heap.size 33 1 u p.length (p.map fun c => uv c.1) := hu; obtain ⟨au, cu, rfl, -, -⟩ := owns_slice hu2; have HB2 := hid hb2; have HU2 := hid hu2; clear hb2 hu hu2)
      | fail)
    obtain ⟨y, hy⟩ : ∃ x, x = w2.alloc (.cells #[.int .i64 ((bb : Nat) : Int), .slice au p.length cu] 62) := ⟨_, rfl⟩
    have hby : Below w2.heap.size w2 y := by rw [hy]; exact (Below.refl _ _).alloc (Nat.le_refl _) _
    have hgy : y.heap[w2.heap.size]? = some (.cells #[.int .i64 ((bb : Nat) : Int), .slice au p.length cu] 62 (0, 0)) := by rw [hy]; exact heap_alloc_new w2 _
    obtain ⟨pb, hpb⟩ : ∃ p, p = w2.heap.size := ⟨_, rfl⟩
    rw [← hpb] at hgy
    rw [← hy, ← hpb]
    have HYB := hid (HB2.out.trans (hby.mono HB2.out.size))
    have HGY := hid hgy
    have c0 : y.cell? ⟨pb, 0, none⟩ = some (.int .i64 ((bb : Nat) : Int)) := (cell_of_row _ _ _ _ _ _ hgy).trans rfl
    have c1 : y.cell? ⟨pb, 1, none⟩ = some (.slice au p.length cu) := (cell_of_row _ _ _ _ _ _ hgy).trans rfl
    have HPB := hid (show pb < y.heap.size from (Array.getElem?_eq_some_iff.1 hgy).1)
    have HUY := hid (owns_below HU2.out hby)
    have HU := hid (show RdV y (.slice au p.length cu) ((p.map Prod.fst).map uv) from by rw [List.map_map]; exact RdV.of_own HUY.out)
    have HPW := hid (show w2.heap.size ≤ pb from by rw [hpb]; exact Nat.le_refl _)
    clear hy hby hgy hpb
    obtain ⟨hbbR, hfb, -⟩ := best15_some HBE.out
    rw [HF.out] at hfb
    have HBB := hid hbbR
    obtain ⟨nn, hnn, hpn, hroom, hless⟩ := leave_some hfb
    have HPN := hid (show (p.map Prod.fst).Nodup from by
      have h1 := who_nodup m bb L t0
      rw [hpn, List.map_take]
      exact h1.sublist (List.take_sublist _ _))
    have HPM := hid (show ∀ x ∈ p, x ∈ L ∧ x.1 ∈ m.row bb ∧ x.2 < t0 from fun x hx => by rw [hpn] at hx; exact who_mem (List.mem_of_mem_take hx))
    have HRM := hid hroom
    have hpl : p.length = nn := by rw [hpn, List.length_take]; omega
    have HLS := hid (show ∀ i, i < p.length → (m.free bb).length + m.sumC (p.take i) < K from fun i hi => hless i (by omega))
    have hp16 : p.length ≤ 16 := Nat.le_trans (Mx.leave_len hfb) HN16.out
    have HPW2 := hid (show pm < pb from Nat.lt_of_lt_of_le HPL.out (Nat.le_trans HB2.out.size HPW.out))
    have HUG := hid (show ∀ g o, au = some ⟨g, o, none⟩ → ¬ g = pm from fun g o e => by
      subst e
      have h1 := (World.ownsRow.lt HUY.out g rfl).1
      have h2 := HPL.out
      omega)
    have HSY := hid (HSB.out.below (HYB.out))
    have HSG := hid (show ∀ g o, a2 = some ⟨g, o, none⟩ → ∀ j, j < len2 → ¬ g = pm from fun g o e j hj => by
      obtain ⟨b9, o9, e9, hb9, -⟩ := HS.out j hj
      rw [e] at e9
      simp only [Option.some.injEq, Addr.mk.injEq] at e9
      have h1 := HPA.out
      omega)
    have HMY := hid (HM.out.below HYB.out HPL.out)
    clear hfb hbbR hnn hpn hroom hless hpl
    go_wp2_with fail
    go_loopw [68] (fun i wr => ∃ (k : Nat) (m' : Mx), i = .int .i64 k ∧ k ≤ p.length ∧ MxAt wr pm m' ∧ Rid m m' bb (p.take k) ∧ Keeps (fun q => q = pm) y wr) (fun i _ => p.length - (intOf i).toNat)
    case atStart => exact ⟨0, m, rfl, Nat.zero_le _, HMY.out, Rid.nil HONE.out bb, Keeps.refl _ _⟩
    case round =>
      obtain ⟨k, m', rfl, hk, hm', hrid, hkp⟩ := hrel
      have HM9 := hid hm'
      have HRI := hid hrid
      have HKP := hid hkp
      have e0 : wr.cell? ⟨pb, 0, none⟩ = some (.int .i64 ((bb : Nat) : Int)) := (hkp.cell (p := ⟨pb, 0, none⟩) HPB.out (show ¬ pb = pm by have := HPW2.out; omega)).trans c0
      have HPR := hid (show pm < wr.heap.size from hm'.lt)
      have hmr' : bb < m'.r := by rw [hrid.mr, HMR.out]; exact HBB.out
      have hfr' := hrid.fr
      have hn16' := hm'.n16
      by_cases hkn : k < p.length
      · have hki : (k : Int) < (p.length : Int) := by omega
        have hk40 : ¬ (k : Int) > 40 := by omega
        have hk41 : ¬ (40 : Int) < (k : Int) := by omega
        obtain ⟨x, hx⟩ : ∃ x, p[k]? = some x := ⟨_, List.getElem?_eq_getElem hkn⟩
        obtain ⟨hxL, hxr, hxt⟩ := HPM.out x (List.mem_of_getElem? hx)
        have hnot : x.1 ∉ (p.take k).map Prod.fst := by
          intro hmem
          rw [List.map_take] at hmem
          obtain ⟨i9, hi9⟩ := List.mem_iff_getElem?.1 hmem
          have hl9 := (List.getElem?_eq_some_iff.1 hi9).1
          rw [List.length_take, List.length_map] at hl9
          rw [List.getElem?_take_of_lt (by omega)] at hi9
          have hx9 : (p.map Prod.fst)[k]? = some x.1 := by rw [List.getElem?_map, hx]; rfl
          have := (List.getElem?_inj (by rw [List.length_map]; omega) HPN.out).1 (hi9.trans hx9.symm)
          omega
        have hwh := hrid.where_ HONE.out hxr (by rw [HMR.out]; exact HBB.out) hnot
        have hstep := hrid.step HONE.out HN16.out hxr (by rw [HMR.out]; exact HBB.out) hnot
        rw [← take_snoc' _ _ _ hx] at hstep
        have HST := hid hstep
        have hls := HLS.out k hkn
        obtain ⟨i, hi1, hi2, hi3, hxe⟩ := HLM.out x hxL
        obtain ⟨sb, so, e2, hsb, hrg, -, -, ht8⟩ := HSY.out i hi1
        have hsb9 := HSG.out sb so e2 i hi1
        have t2 : wr.cell? ⟨sb, so + i * 4 + 2, none⟩ = some (.int .u8 ((S i).t : Nat)) := (hkp.cell (p := ⟨sb, so + i * 4 + 2, none⟩) hsb hsb9).trans (hrg 2 _ rfl)
        have t3 : wr.cell? ⟨sb, so + i * 4 + 3, none⟩ = some (.bool false) := ((hkp.cell (p := ⟨sb, so + i * 4 + 3, none⟩) hsb hsb9).trans (hrg 3 _ rfl)).trans (by rw [hi3])
        obtain ⟨-, g, off, e3, hg, hcell⟩ := RdV.at1 (HU.out.blk hkp (fun g o e => HUG.out g o e)) k (uv x.1) (by rw [List.getElem?_map, List.getElem?_map, hx]; rfl)
        subst e3
        obtain ⟨J, hJ⟩ : ∃ J, J = x.1 := ⟨_, rfl⟩
        rw [← hJ] at hcell hwh
        have hc0 : wr.cell? ⟨g, off + k, none⟩ = some (.int .u32 (J : Nat)) := hcell
        have hJi : J = i + 1 := by rw [hJ, hxe]
        have hwJ : IntKind.u32.wrap ((J : Int) - 1) = (i : Int) := by rw [IntKind.wrap_u32]; omega
        have htt : ¬ (t0 : Int) ≤ ((S i).t : Int) := by rw [hxe] at hxt; simp only at hxt; omega
        have hii : (i : Int) < (len2 : Int) := by omega
        have HFR := hid (free_any wr pm bb m' hm' hmr')
        obtain ⟨F, hF⟩ : ∃ F, F = (m'.free bb).length := ⟨_, rfl⟩
        rw [← hF] at HFR hfr'
        have hlei : ¬ (K : Int) ≤ (F : Int) := by omega
        have HWH := hid hwh
        obtain ⟨stt, hstt⟩ : ∃ z, z = (S i).t := ⟨_, rfl⟩
        rw [← hstt] at t2 htt
        subst e2
        rw [← hJ] at HST
        clear hm' hrid hkp hx hxL hxr hxt hnot hwh hstep hls hi3 hxe hrg ht8 hcell hJ hJi hF hfr' hstt hsb9
        go_upto_region 19 with (first
          | (go_at_call 31; (with_reducible refine HFR.out.mono ?_); rintro e w3 ⟨rfl, hb3⟩; have s2 := (hb3.cell (p := ⟨sb, so + i * 4 + 2, none⟩) (World.block_lt_of_cell? _ _ t2)).trans t2; have s3 := (hb3.cell (p := ⟨sb, so + i * 4 + 3, none⟩) (World.block_lt_of_cell? _ _ t3)).trans t3; have e4 := (hb3.cell (p := ⟨pb, 0, none⟩) (World.block_lt_of_cell? _ _ e0)).trans e0; have HB3 := hid hb3; clear hb3)
          | fail)
        have HOF := hid (of_some w3 pm m' J bb (HM9.out.below HB3.out HPR.out) HWH.out)
        clear t2 t3 e0 s2 s3
        go_upto_region 22 with (first
          | (go_at_call 32; (with_reducible refine HOF.out.mono ?_); rintro e w4 ⟨v4, rfl, hv4, -, hb4⟩; have e5 := (hb4.cell (p := ⟨pb, 0, none⟩) (World.block_lt_of_cell? _ _ e4)).trans e4; have HB4 := hid (HB3.out.trans (hb4.mono HB3.out.size)); clear hb4 hv4)
          | fail)
        have HRE := hid (remove_yes w4 pm J bb m' (HM9.out.below HB4.out HPR.out) HWH.out)
        go_wp2_with (first
          | (go_at_call 19; (with_reducible refine HRE.out.mono ?_); rintro e w5 ⟨rfl, hm5, hk5⟩; have HM5 := hid hm5; have HK5 := hid (HKP.out.trans ((Keeps.of_below (S := fun q => q = pm) HB4.out (fun q hq hge => absurd hq (by omega))).trans hk5)); clear hm5 hk5)
          | fail)
        go_roundw
        case rel => exact ⟨k + 1, _, by go_num, by omega, HM5.out, HST.out, HK5.out⟩
        case measure => simp [intOf]; omega
      · have hki : ¬ (k : Int) < (p.length : Int) := by omega
        have HFR := hid (free_any wr pm bb m' hm' hmr')
        have hkk : p.take k = p := by rw [show k = p.length by omega, List.take_length]
        rw [hkk] at hfr'
        have hrm := HRM.out
        obtain ⟨F, hF⟩ : ∃ F, F = (m'.free bb).length := ⟨_, rfl⟩
        rw [← hF] at HFR hfr'
        have hlei : (K : Int) ≤ (F : Int) := by omega
        have HWB := hid (show Below w.heap.size w wr from HB0.out.trans ((HYB.out.mono HB0.out.size).trans (HKP.out.below (Nat.le_trans HB0.out.size HYB.out.size) (fun q hq => by have := HPA.out; omega))))
        clear hm' hrid hkp hF hfr' hrm hkk
        go_wp2_with (first
          | (go_at_call 31; (with_reducible refine HFR.out.mono ?_); rintro e w3 ⟨rfl, hb3⟩; have HB3 := hid (HWB.out.trans (hb3.mono HWB.out.size)); clear hb3)
          | fail)
        go_ret
        exact ⟨rfl, HB3.out⟩

/-! ### THE ROW's STEP -/
set_option maxRecDepth 100000 in
theorem lifted (os : Os) (started : os.Started) (H : Type) (enc : TypeId × Value → H) :
    ReturnsInHanded {} Try.checked os 5 .any (Rows.victimFairSpec.pre6 enc Try.prog Try.f5 Rows.victimFairRow.domain false) (Rows.victimFairSpec.post enc Try.prog Try.f5 false true false false) := by
  refine returnsInHanded_of_change (C := Try.checked) own started (by kernel_rfl) Try.func5
    (ChangeSpec.witness6 (enc := enc) (C := Try.checked) false ⟨#[], #[.int .u8 0, .int .u8 0, .slice none 0 0, .int .u16 0, .int .u8 0, .int .u8 0], []⟩ 8 (by kernel_rfl) (by kernel_rfl) (by kernel_rfl) (by kernel_rfl)) ?_
  intro W base args ds gs before hval0 hW hcnd _
  have hval : ∀ (j : Nat) t v, Try.f5.params[j]? = some t → args[j]? = some v → Value.okWide Try.prog W .any base t v := hval0
  have hW' := hW
  obtain ⟨p, q, hA0, hV, rfl, hfz, hnd⟩ := hW
  have hA : DataW.TrodAll enc Try.prog W 0 (fun _ => true) true Try.f5.params.toList args.toList ds p := hA0
  rw [Try.params5] at hA hval
  obtain ⟨v0, vs0, d0, ds0, p0, q0, hargs, rfl, rfl, h0, r0⟩ := trodAll_cons hA
  obtain ⟨v1, vs1, d1, ds1, p1, q1, rfl, rfl, rfl, h1, r1⟩ := trodAll_cons r0
  obtain ⟨v2, vs2, d2, ds2, p2, q2, rfl, rfl, rfl, h2, r2⟩ := trodAll_cons r1
  obtain ⟨v3, vs3, d3, ds3, p3, q3, rfl, rfl, rfl, h3, r3⟩ := trodAll_cons r2
  obtain ⟨v4, vs4, d4, ds4, p4, q4, rfl, rfl, rfl, h4, r4⟩ := trodAll_cons r3
  obtain ⟨v5, vs5, d5, ds5, p5, q5, rfl, rfl, rfl, h5, r5⟩ := trodAll_cons r4
  obtain ⟨rfl, rfl, rfl⟩ := trodAll_nil r5
  obtain rfl : args = #[v0, v1, v2, v3, v4, v5] := by cases args; simp_all
  obtain ⟨rfl, rfl⟩ := trodVars_none hV
  have k0 := h0
  have lt0 : ∀ x ∈ p0, x.block < W.heap.size := by obtain ⟨m, hm⟩ := k0; exact DataW.trod_lt m _ _ _ hm
  have k1 := h1
  have lt1 : ∀ x ∈ p1, x.block < W.heap.size := by obtain ⟨m, hm⟩ := k1; exact DataW.trod_lt m _ _ _ hm
  have k2 := h2
  have lt2 : ∀ x ∈ p2, x.block < W.heap.size := by obtain ⟨m, hm⟩ := k2; exact DataW.trod_lt m _ _ _ hm
  have k3 := h3
  have lt3 : ∀ x ∈ p3, x.block < W.heap.size := by obtain ⟨m, hm⟩ := k3; exact DataW.trod_lt m _ _ _ hm
  have k4 := h4
  have lt4 : ∀ x ∈ p4, x.block < W.heap.size := by obtain ⟨m, hm⟩ := k4; exact DataW.trod_lt m _ _ _ hm
  have k5 := h5
  have lt5 : ∀ x ∈ p5, x.block < W.heap.size := by obtain ⟨m, hm⟩ := k5; exact DataW.trod_lt m _ _ _ hm
  obtain ⟨a0, rfl, rfl, rfl, w0⟩ := open_int Try.underlying5 (hval 0 5 v0 rfl rfl) h0
  obtain ⟨a1, rfl, rfl, rfl, w1⟩ := open_int Try.underlying5 (hval 1 5 v1 rfl rfl) h1
  obtain ⟨a2, len2, cap2, rfl⟩ := okWide_slice Try.underlying54 (hval 2 54 v2 rfl rfl)
  have w2 : IsSt15 W a2 len2 cap2 := isSt15_of h2
  obtain ⟨a3, rfl, rfl, rfl, w3⟩ := open_int Try.underlying55 (hval 3 55 v3 rfl rfl) h3
  obtain ⟨a4, rfl, rfl, rfl, w4⟩ := open_int Try.underlying5 (hval 4 5 v4 rfl rfl) h4
  obtain ⟨a5, rfl, rfl, rfl, w5⟩ := open_int Try.underlying5 (hval 5 5 v5 rfl rfl) h5
  clear hA0 hval0
  refine (walk a0 a1 a2 len2 cap2 a3 a4 a5 W w0 w1 w2 w3 w4 w5).mono fun e W' ⟨he, bel⟩ => ?_
  subst he
  exact ⟨_, rfl, _, _, _, [], _, [], hW', trodAll_mk1 (shut_bool Try.underlying4 _), (trodAll_cons_mk (Below.trod laidOut (by kernel_rfl) (of_decide_eq_true (by kernel_rfl)) k0 bel lt0) (trodAll_cons_mk (Below.trod laidOut (by kernel_rfl) (of_decide_eq_true (by kernel_rfl)) k1 bel lt1) (trodAll_cons_mk (Below.trod laidOut (by kernel_rfl) (of_decide_eq_true (by kernel_rfl)) k2 bel lt2) (trodAll_cons_mk (Below.trod laidOut (by kernel_rfl) (of_decide_eq_true (by kernel_rfl)) k3 bel lt3) (trodAll_cons_mk (Below.trod laidOut (by kernel_rfl) (of_decide_eq_true (by kernel_rfl)) k4 bel lt4) (trodAll_cons_mk (Below.trod laidOut (by kernel_rfl) (of_decide_eq_true (by kernel_rfl)) k5 bel lt5) trodAll_mk0)))))), rfl, bel.frame _, fun h => by cases h⟩

theorem over : Rows.victimFairRow.holds Try.pinned (OpenSpec.ofChange Rows.victimFairSpec) :=
  OpenClaim.holds_of_wide 5 Try.f5 rfl rfl rfl rfl rfl rfl rfl ⟨rfl, rfl, rfl, rfl, rfl⟩ rfl rfl rfl rfl rfl (by kernel_rfl) Try.func5 (by kernel_rfl)
    (of_decide_eq_true (by kernel_rfl)) (by unfold Func.isWrapper; first | (rw [if_pos (by decide +kernel)]; kernel_rfl) | (rw [if_neg (by decide +kernel)]; exact ⟨rfl, rfl⟩))
    (fun os started H enc _ => lifted os started H enc)

/-- THE STATEMENT -/
theorem victimFair_holds : Rows.VictimFairSaid := over
#print axioms victimFair_holds
end Go.Proofs.Ytdongghjchnpbaa.victimFair
