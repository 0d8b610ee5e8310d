/-
  What is put on one sector leaves all others as they are: of any block, any sector, any bytes on the others; a block that is refused leaves its sector as it was, one that isn't is read again whole. No conditions.
  (The frame behind the walk is the guide's shell, at these parameters.)
-/
import Derived.Test.YtbagpckiegpalaaRows
import Derived.WalkKit
import Derived.Test.YtbagpckiegpalaaBlkW
import Derived.ProofKit
import Derived.Deep.Cut
import Derived.Deep.CutRange
import Derived.Deep.CutBlock
import Derived.Deep.Grids
import Derived.OpenShut
import Derived.ShutString
import Derived.ChangeOld
import Derived.Below
namespace Go.Proofs.Ytbagpckiegpalaa.blockApart
open Go.ChangeShapes Go.WideShapes Go.ChangeAt Go.RowKit
open Go.ChangeMaps (open_string shut_string)
set_option linter.unusedVariables false

theorem own : ownKnob Try.prog.godebug = none := by kernel_rfl
theorem laidOut : laidOutB Try.prog = true := by kernel_rfl

set_option maxRecDepth 100000 in
set_option maxHeartbeats 8000000 in
theorem walk (a0 : Int) (v1 : Value) (a2 : Option Addr) (len2 cap2 : Nat) (w : World) (w0 : (Lit.int .u8 a0).wf = true) (w1 : IsBlock6 w v1) (w2 : IsMat w a2 len2 cap2) :
    Calls Try.prog 7 #[.int .u8 a0, v1, .slice a2 len2 cap2] w fun e w' => e = .returned (.bool true) ∧ Below w.heap.size w w' := by
  obtain ⟨n0, n1, n2, n3, A, L, C, zs, rfl, hn, hrow⟩ := w1
  obtain ⟨q0, rfl⟩ := Int.eq_ofNat_of_zero_le (show 0 ≤ a0 by have := bounds_u8 w0; omega)
  have hq0 : q0 < 256 := by have := bounds_u8 w0; omega
  obtain ⟨hbl1, hbl2, hbl3⟩ := hrow.bounds
  obtain ⟨K, hK⟩ : ∃ K, K = min L 110 := ⟨_, rfl⟩
  have hKL : K ≤ L := by omega
  have hK4 : K ≤ 110 := by omega
  have hKC : (K : Int) ≤ (C : Int) := by omega
  have HMIN := hid (show (if 110 < (L : Int) then (110 : Int) else (L : Int)) = (K : Int) by split <;> omega)
  obtain ⟨B, hBl, hBr, k0, k1, k2, k3⟩ := IsBlock6.blk hn hrow K hKL
  have HBR := hid hBr
  have HBL := hid hBl
  have K0 := hid k0
  have K1 := hid k1
  have K2 := hid k2
  have K3 := hid k3
  have hmb := w2.bounds
  have HMAT := hid w2
  clear hrow hBl hBr k0 k1 k2 k3 hK w0 w2
  go_enter Try.func7, Try.ntmps7
  go_wp2_with fail
  obtain ⟨wb, hwb⟩ : ∃ z, z = w.alloc (.cells #[.int .u8 (n0 : Int), .int .u32 (n1 : Int), .int .u32 (n2 : Int), .int .u32 (n3 : Int), .slice A L C] 34) := ⟨_, rfl⟩
  rw [← hwb]
  have hgb : wb.heap[w.heap.size]? = some (.cells #[.int .u8 (n0 : Int), .int .u32 (n1 : Int), .int .u32 (n2 : Int), .int .u32 (n3 : Int), .slice A L C] 34 (0, 0)) := by rw [hwb]; exact heap_alloc_new _ _
  have hb0 : Below w.heap.size w wb := by rw [hwb]; exact (Below.refl _ _).alloc (Nat.le_refl _) _
  clear hwb
  refine (awake6_any _).mono ?_
  rintro e wa ⟨rfl, hba⟩
  have hga := (hba.block _ (Array.getElem?_eq_some_iff.1 hgb).1).trans hgb
  have HBA := hid (hb0.trans (hba.mono hb0.size))
  have HGA := hid hga
  have hlwa := (Array.getElem?_eq_some_iff.1 hga).1
  have hsa := HBA.out.size
  clear hgb hb0 hba hga
  go_wp2_with fail
  refine (new_yes 6 wa (by omega) (by omega)).mono ?_
  rintro e w1 ⟨b, bn, bd, rfl, h1, hb1⟩
  have H1 := hid (show SlabAt w1 wa.heap.size b bn bd (.slice none 0 0) (Sl.new 6) from h1)
  have HB1 := hid hb1
  clear h1 hb1
  go_wp2_with fail
  go_loopw [32] (fun i wr => ∃ (j : Nat) (s : Sl) (wv : Value), j ≤ len2 ∧ i = .int .i64 j ∧ SlabAt wr wa.heap.size b bn bd wv s ∧ s.calm 6 ∧ (s.steps ≤ min j 6 ∧ s.way.length ≤ min j 6) ∧ Below wa.heap.size wa wr) (fun i _ => len2 - (intOf i).toNat)
  case atStart => exact ⟨0, Sl.new 6, _, by omega, rfl, H1.out, calm_new 6, ⟨Nat.zero_le _, Nat.zero_le _⟩, HB1.out⟩
  case round =>
    obtain ⟨j, s, wv, hj, rfl, hs, hcm, hst, hB⟩ := hrel
    have HS := hid hs
    have HC := hid hcm
    have HST := hid hst
    have HB := hid hB
    have HBW := hid (HBA.out.trans (hB.mono hsa))
    clear hs hcm hst hB
    by_cases hlt : j < len2
    · obtain ⟨mb, off, rfl, hmbl, ts, htl, hrows⟩ := HMAT.out.rows (by omega) 128
      obtain ⟨t, ht⟩ : ∃ t, ts[j]? = some t := ⟨_, List.getElem?_eq_getElem (by omega)⟩
      obtain ⟨A1, L1, C1, hc, m128, l1, l2, l3, l4, hrd⟩ := matrow_at (hrows j t ht)
      rw [show ((128 : Nat) : Int) = 128 from rfl] at m128
      have hcell := (HBW.out.cell (p := ⟨mb, off + j, none⟩) hmbl).trans hc
      have HRD := hid (hrd.below HBW.out)
      have jC : (t.length : Int) ≤ (C1 : Int) := by omega
      have hjl : (j : Int) < (len2 : Int) := by omega
      clear hc hrd hrows ht htl
      by_cases hj6 : j < 6
      · as_aux_lemma =>
          have hj6i : (j : Int) < 6 := by omega
          go_wp2_with fail
          refine (write_all wa.heap.size b bn bd wv s (j : Int) _ t wr HS.out (by have := HST.out; omega) (by have := HST.out; omega) HRD.out).mono ?_
          rintro e w5 ⟨wv5, rfl, h5, hk5⟩
          have H5 := hid h5
          have B5 := hid (HB.out.trans (HS.out.keep hk5))
          obtain ⟨q1, q2⟩ := calm_write HC.out j t hj6 l4
          have Q1 := hid q1
          have Q2 := hid q2
          clear h5 hk5 q1 q2
          go_wp2_with fail
          go_roundw
          case rel => exact ⟨j + 1, _, wv5, hlt, by go_num, H5.out, by rw [Q1.out]; exact Q2.out, by have := HST.out; have := s.write_steps (j : Int) t; omega, B5.out⟩
          case measure => simp [intOf]; omega
      · as_aux_lemma =>
          have hj6i : ¬ (j : Int) < 6 := by omega
          go_wp2_with fail
          go_roundw
          case rel => exact ⟨j + 1, s, wv, hlt, by go_num, HS.out, HC.out, by have := HST.out; omega, HB.out⟩
          case measure => simp [intOf]; omega
    · have hjn : ¬ (j : Int) < (len2 : Int) := by omega
      have HST6 := hid (show s.steps ≤ 6 ∧ s.way.length ≤ 6 by have := HST.out; omega)
      clear hj hlt
      go_wp2_with fail
      go_loopw [11, 48] (fun u i wr => ∃ (j : Nat) (qa : Option Addr) (qc : Nat) (VV : List Value), j ≤ 6 ∧ u = .slice qa j qc ∧ i = .int .i64 j ∧ SlabAt wr wa.heap.size b bn bd wv s ∧ wr.ownsRow wa.heap.size 32 1 (.slice qa j qc) j VV ∧ RowsX wr b bn bd VV (secs s j) ∧ Below wa.heap.size wa wr) (fun _ i _ => 6 - (intOf i).toNat)
      case atStart => exact ⟨0, none, 0, [], by omega, rfl, rfl, HS.out, World.ownsRow_nil _ _ _ _, ⟨rfl, (fun r q h => by simp [secs] at h)⟩, HB.out⟩
      case round =>
        obtain ⟨i, qa, qc, VV, hi6, rfl, rfl, hs2, ho2, hx2, hB2⟩ := hrel
        have HS2 := hid hs2
        have HO2 := hid ho2
        have HX2 := hid hx2
        have HB2 := hid hB2
        have hic : i ≤ qc ∧ qc ≤ 9223372036854775807 := by
          obtain ⟨a, c, e, h1, h2⟩ := owns_slice ho2
          simp only [Value.slice.injEq] at e
          obtain ⟨_, _, rfl⟩ := e
          exact ⟨h1, h2⟩
        clear hs2 ho2 hx2 hB2
        by_cases hlt2 : i < 6
        · have hii : (i : Int) < 6 := by omega
          go_wp2_with fail
          refine (read_all wa.heap.size b bn bd wv s (i : Int) wr HS2.out).mono ?_
          rintro e w7 ⟨va, rfl, ha⟩
          rw [calm_read HC.out i hlt2] at ha ⊢
          dsimp only at ha ⊢
          obtain ⟨z1, z2, z3, z4⟩ := HS2.out.size
          obtain ⟨hrow, g, rfl⟩ := rowX_read ha z1 z2 z3
          have HRW := hid hrow
          have H7 := hid (HS2.out.below ha.below)
          have HO7 := hid (owns_below HO2.out ha.below)
          have HX7 := hid (HX2.out.below ha.below)
          have B7 := hid (HB2.out.trans (ha.below.mono z4))
          have hs7 := B7.out.size
          have HO8 := hid (owns_below HO7.out ((Below.refl w7.heap.size w7).alloc (Nat.le_refl _) (.cells #[.slice (some ⟨g, 0, none⟩) 128 128] 32)))
          have HSC := hid (SrcC.lit w7 #[.slice (some ⟨g, 0, none⟩) 128 128] 32 1 _ rfl)
          clear ha hrow
          go_wp2_with (first
            | (at_builtin; (refine appsw (by rfl) 79 32 (.tmp 57) (.tmp 59) rfl wa.heap.size 1 24 _ Try.underlying79 infoBS6 rfl (by decide) (.slice qa i qc) _ i 1 (i + 1) _ _ rfl rfl HO8.out HSC.out rfl (by simp [Value.oneCell']) rfl (by omega) (by omega) (by simp; omega) ?_); intro ad9 cp9 w9 ho9 hg9; have HO9 := hid ho9; have HG9 := hid hg9; clear ho9 hg9)
            | fail)
          have HF := hid (was_push (ad9 := ad9) (cp9 := cp9) H7.out HO7.out HX7.out HRW.out HG9.out)
          go_roundw
          case rel => exact ⟨i + 1, ad9, cp9, _, hlt2, rfl, by go_num, HF.out.1, HO9.out, by rw [secs_succ]; exact HF.out.2.1, B7.out.trans HF.out.2.2⟩
          case measure => simp [intOf]; omega
        · obtain rfl : i = 6 := by omega
          rw [show (((6 : Nat) : Int)) = 6 from rfl]
          have HGB := hid (show wr.heap[w.heap.size]? = some (.cells #[.int .u8 (n0 : Int), .int .u32 (n1 : Int), .int .u32 (n2 : Int), .int .u32 (n3 : Int), .slice A L C] 34 (0, 0)) from (HB2.out.block _ hlwa).trans HGA.out)
          have HBV := hid (HBA.out.trans (HB2.out.mono hsa))
          obtain ⟨⟨m0, m1, m2, m3, m4⟩, -, -, -, -, z4⟩ := zero5 HGB.out
          go_upto_region 18 with fail
          simp only [HMIN.out, Int.toNat_natCast]
          obtain ⟨w2, hw2⟩ : ∃ z, z = wr.setCell ⟨w.heap.size, 4, none⟩ (.slice A K C) := ⟨_, rfl⟩
          rw [← hw2]
          have HG2 := hid (show w2.heap[w.heap.size]? = some (.cells #[.int .u8 (n0 : Int), .int .u32 (n1 : Int), .int .u32 (n2 : Int), .int .u32 (n3 : Int), .slice A K C] 34 (0, 0)) by rw [hw2]; exact (setCell_heapS _ _ _ _ _ _ _ HGB.out).trans (by simp))
          have HBX := hid (show Below w.heap.size w w2 by rw [hw2]; exact HBV.out.setCell (p := ⟨w.heap.size, 4, none⟩) (Nat.le_refl _) _)
          have hkS : Keeps (fun k => k = w.heap.size) wr w2 := by rw [hw2]; exact (Keeps.refl (fun k => k = w.heap.size) wr).setCell (p := ⟨w.heap.size, 4, none⟩) (fun _ => rfl) _
          have H3 := hid (show SlabAt w2 wa.heap.size b bn bd wv s from HS2.out.keeps hkS (fun e => by have := HS2.out.low b (.inl rfl); omega) (fun e => by have := HS2.out.low bn (.inr (.inl rfl)); omega) (fun e => by have := HS2.out.low bd (.inr (.inr (.inl rfl))); omega) (fun k hk e => by have := HS2.out.low k (.inr (.inr (.inr hk))); omega))
          have HO3 := hid (show w2.ownsRow wa.heap.size 32 1 (.slice qa 6 qc) 6 VV from owns_by HO2.out fun q hq => hkS.block q (World.ownsRow.lt HO2.out q hq).2 (fun e => by have := (World.ownsRow.lt HO2.out q hq).1; omega))
          have HX3 := hid (show RowsX w2 b bn bd VV (secs s 6) from ⟨HX2.out.1, fun r q hq => by
            obtain ⟨v, hv, hr⟩ := HX2.out.2 r q hq
            refine ⟨v, hv, hr.keeps hkS (fun g cs t e ht _ _ _ hg => ?_)⟩
            subst hg
            have := e.symm.trans HGB.out
            simp only [Option.some.injEq, Obj.cells.injEq] at this
            rcases ht with rfl | rfl
            · exact absurd this.2.1 (by decide)
            · exact absurd this.2.1 (by decide)⟩)
          clear hw2 hkS m0 m1 m2 m3 m4 z4
          obtain ⟨⟨m0, m1, m2, m3, m4⟩, -, -, -, -, -⟩ := zero5 HG2.out
          obtain ⟨k, hk⟩ : ∃ k, k = q0 % 6 := ⟨_, rfl⟩
          have hk6 : k < 6 := by omega
          have hke : (q0 : Int) % 6 = (k : Int) := by omega
          have hkt : (q0 : Int).tmod 6 = (k : Int) := by rw [Int.tmod_eq_emod_of_nonneg (by omega)]; exact hke
          have hk6i : (k : Int) < 6 := by omega
          obtain ⟨r, hr⟩ : ∃ r, r = s.putb (k : Int) B := ⟨_, rfl⟩
          have HPC := hid (putb_calm HC.out H3.out.okay k hk6 B)
          rw [← hr] at HPC
          have HPUT := hid (show Calls Try.prog 12 #[.pointer (some ⟨b, 0, none⟩), .int .i64 (k : Int), .agg #[.int .u8 (n0 : Int), .int .u32 (n1 : Int), .int .u32 (n2 : Int), .int .u32 (n3 : Int), .slice A K C]] w2 (fun e w' => ∃ v', e = .returned (.int .i64 r.2) ∧ SlabAt w' wa.heap.size b bn bd v' r.1 ∧ Keeps (SlabS b bn bd wv) w2 w') by
            have h := put_all wa.heap.size b bn bd wv s (k : Int) B (.slice A K C) w2 H3.out (by have := HST6.out; omega) (by have := HST6.out; omega) (HBR.out.below HBX.out)
            rw [← hr] at h
            rw [K0.out, K1.out, K2.out, K3.out]
            exact h)
          obtain ⟨s4, ev⟩ := r
          dsimp only at HPC HPUT
          have HK := hid hk
          clear hk hr
          go_upto_region 20 with (first
            | (go_at_call 12; refine (HPUT.out).mono ?_; rintro e w4 ⟨v4, rfl, h4, hk4⟩)
            | fail)
          have H4 := hid h4
          have HO4 := hid (show w4.ownsRow wa.heap.size 32 1 (.slice qa 6 qc) 6 VV from owns_by HO3.out fun q hq => by
            obtain ⟨cur, hc⟩ := owns_ty HO3.out q hq
            exact hk4.block q (World.ownsRow.lt HO3.out q hq).2 (H3.out.apart' hc (by decide) (by decide) (by decide)))
          have HX4 := hid (HX3.out.slab H3.out hk4)
          have hb4 := H3.out.keep hk4
          have HG4 := hid ((hb4.block _ hlwa).trans HG2.out)
          have HB4 := hid (HBX.out.trans (hb4.mono hsa))
          have HL4 := hid (Array.getElem?_eq_some_iff.1 HG4.out).1
          have hs4 := HB4.out.size
          clear h4 hk4 hb4 m0 m1 m2 m3 m4
          obtain ⟨gq, hgq⟩ : ∃ gq, qa = some ⟨gq, 0, none⟩ := by
            rcases owns_shape HO4.out with ⟨e0, e1⟩ | ⟨g, cap, ev, hg1, hg2, _, _⟩
            · omega
            · simp only [Value.slice.injEq] at ev
              exact ⟨g, ev.1⟩
          subst hgq
          have HROW := hid (show ∀ (W : World) (i : Nat), Below w4.heap.size w4 W → i < 6 → ∃ (g c : Nat), W.cell? ⟨gq, i, none⟩ = some (.slice (some ⟨g, 0, none⟩) 128 c) ∧ Rd W (.slice (some ⟨g, 0, none⟩) 128 c) (sect s.now i) from fun W i hW hi => by
            obtain ⟨v, hv, hr1, hr2, g, c, cs, t, rfl, hgt, _⟩ := HX4.out.2 i _ (secs_get s 6 i hi)
            have hc := World.ownsRow.cells HO4.out (g := gq) rfl i _ hv
            rw [Addr.add_lit, Nat.zero_add] at hc
            exact ⟨g, c, (hW.cell (World.block_lt_of_cell? _ _ hc)).trans hc, hr1.below hW⟩)
          have HRDR := hid (show ∀ (W : World) (i : Nat), Below w4.heap.size w4 W → i < 6 → Calls Try.prog 31 #[.pointer (some ⟨b, 0, none⟩), .int .i64 (i : Int)] W (fun e w' => ∃ v, e = .returned (.tuple #[v, .int .i64 0]) ∧ Rd w' v (sect s4.now i) ∧ Below W.heap.size W w') from fun W i hW hi => by
            have h := read_all wa.heap.size b bn bd v4 s4 (i : Int) W (H4.out.below hW)
            rw [calm_read HPC.out.1 i hi] at h
            refine h.mono ?_
            rintro e w' ⟨v, rfl, ha⟩
            exact ⟨v, rfl, ha.rd, ha.below⟩)
          go_wp2_with fail
          go_loopw [77] (fun i wr => ∃ (j : Nat), j ≤ 6 ∧ i = .int .i64 j ∧ Below w4.heap.size w4 wr) (fun i _ => 6 - (intOf i).toNat)
          case atStart => exact ⟨0, by omega, rfl, Below.refl _ _⟩
          case round =>
            obtain ⟨i, hi6, rfl, hB5⟩ := hrel
            have HB5 := hid hB5
            clear hB5
            by_cases hlt3 : i < 6
            · have hii : (i : Int) < 6 := by omega
              go_wp2_with fail
              refine (HRDR.out wr i HB5.out hlt3).mono ?_
              rintro e w6 ⟨v6, rfl, hr6, hb6⟩
              have HR6 := hid hr6
              have HB6 := hid (HB5.out.trans (hb6.mono HB5.out.size))
              clear hr6 hb6
              by_cases hik : i = k
              · as_aux_lemma =>
                  subst hik
                  go_wp2_with fail
                  go_roundw
                  case rel => exact ⟨i + 1, hlt3, by go_num, HB6.out⟩
                  case measure => simp [intOf]; omega
              · as_aux_lemma =>
                  have hike : ¬ (i : Int) = (k : Int) := by omega
                  obtain ⟨g, c, hc, hrd⟩ := HROW.out w6 i HB6.out hlt3
                  have HR6e := hid (show Rd w6 v6 (sect s.now i) by have := HPC.out.2.1 i hik; rw [← this]; exact HR6.out)
                  have HRD := hid hrd
                  clear hrd
                  go_wp2_with (first
                    | (go_at_call 29; refine (same_eq _ _ (sect s.now i) w6 HR6e.out HRD.out).mono ?_; rintro e w' ⟨rfl, rfl⟩)
                    | fail)
                  go_roundw
                  case rel => exact ⟨i + 1, hlt3, by go_num, HB6.out⟩
                  case measure => simp [intOf]; omega
            · obtain rfl : i = 6 := by omega
              rw [show (((6 : Nat) : Int)) = 6 from rfl]
              by_cases he : ev = 0
              · as_aux_lemma =>
                  subst he
                  have HGT := hid (show ∀ W, Below w4.heap.size w4 W → Calls Try.prog 14 #[.pointer (some ⟨b, 0, none⟩), .int .i64 (k : Int)] W (fun e w' => ∃ ua uc, e = .returned (.tuple #[.agg #[.int .u8 (n0 : Int), .int .u32 (n1 : Int), .int .u32 (n2 : Int), .int .u32 (n3 : Int), .slice ua K uc], .int .i64 0]) ∧ Rd w' (.slice ua K uc) B.data ∧ Below W.heap.size W w') from fun W hW => by
                    have h := get_any wa.heap.size b bn bd v4 s4 (k : Int) W (H4.out.below hW)
                    rw [HPC.out.2.2.2 rfl] at h
                    refine h.mono ?_
                    rintro e w' ⟨dv, rfl, ho, hb⟩
                    obtain ⟨ua, uc, rfl⟩ := rd_slice ho.rd
                    rw [K0.out, K1.out, K2.out, K3.out, ← HBL.out]
                    exact ⟨ua, uc, rfl, ho.rd, hb⟩)
                  have HSM := hid (show ∀ W ua uc, Rd W (.slice ua K uc) B.data → Below w.heap.size w W → Calls Try.prog 16 #[.agg #[.int .u8 (n0 : Int), .int .u32 (n1 : Int), .int .u32 (n2 : Int), .int .u32 (n3 : Int), .slice ua K uc], .agg #[.int .u8 (n0 : Int), .int .u32 (n1 : Int), .int .u32 (n2 : Int), .int .u32 (n3 : Int), .slice A K C]] W (fun e w' => e = .returned (.bool true) ∧ Below W.heap.size W w') from fun W ua uc hr hW => by
                    rw [K0.out, K1.out, K2.out, K3.out]
                    exact same6_eq B ua A K uc C W hr (HBR.out.below hW))
                  go_upto_region 30 with fail
                  go_upto_region 31 with (first
                    | (go_at_call 14; refine (HGT.out wr HB5.out).mono ?_; rintro e w7 ⟨ua, uc, rfl, hr7, hb7⟩)
                    | fail)
                  have HR7 := hid hr7
                  have HB7 := hid (HB5.out.trans (hb7.mono HB5.out.size))
                  clear hr7 hb7
                  obtain ⟨w8, hw8⟩ : ∃ z, z = w7.alloc (.cells #[.int .u8 (n0 : Int), .int .u32 (n1 : Int), .int .u32 (n2 : Int), .int .u32 (n3 : Int), .slice ua K uc] 40) := ⟨_, rfl⟩
                  rw [← hw8]
                  have hb8 : Below w7.heap.size w7 w8 := by rw [hw8]; exact (Below.refl _ _).alloc (Nat.le_refl _) _
                  have hg8 : w8.heap[w7.heap.size]? = some (.cells #[.int .u8 (n0 : Int), .int .u32 (n1 : Int), .int .u32 (n2 : Int), .int .u32 (n3 : Int), .slice ua K uc] 40 (0, 0)) := by rw [hw8]; exact heap_alloc_new _ _
                  have HB8 := hid (HB7.out.trans (hb8.mono HB7.out.size))
                  have HR8 := hid (HR7.out.below hb8)
                  have hgb8 := (HB8.out.block _ HL4.out).trans HG4.out
                  have HBW8 := hid (HB4.out.trans (HB8.out.mono hs4))
                  obtain ⟨⟨m0, m1, m2, m3, m4⟩, -, -, -, -, -⟩ := zero5 hgb8
                  obtain ⟨⟨p0, p1, p2, p3, p4⟩, -, -, -, -, -⟩ := zero5 hg8
                  clear hw8 hb8 hg8 hgb8
                  go_wp2_with (first
                    | (go_at_call 16; refine (HSM.out _ ua uc HR8.out HBW8.out).mono ?_; rintro e w9 ⟨rfl, hb9⟩)
                    | fail)
                  go_ret
                  exact ⟨rfl, HBW8.out.trans (hb9.mono HBW8.out.size)⟩
              · as_aux_lemma =>
                  have HRk := hid (HPC.out.2.2.1 he)
                  obtain ⟨g, c, hc, hrd⟩ := HROW.out wr k HB5.out hk6
                  have hev : (ev != 0) = true := by simpa using he
                  have HRD := hid hrd
                  clear hrd hc he
                  go_wp2_with fail
                  refine (HRDR.out wr k HB5.out hk6).mono ?_
                  rintro e w6 ⟨v6, rfl, hr6, hb6⟩
                  rw [HRk.out] at hr6
                  have HR6 := hid hr6
                  have HB6 := hid (HB5.out.trans (hb6.mono HB5.out.size))
                  obtain ⟨g, c, hc, hrd⟩ := HROW.out w6 k HB6.out hk6
                  have HRD := hid hrd
                  clear hr6 hb6 hrd
                  go_wp2_with (first
                    | (go_at_call 29; refine (same_eq _ _ (sect s.now k) w6 HR6.out HRD.out).mono ?_; rintro e w' ⟨rfl, rfl⟩)
                    | fail)
                  go_ret
                  exact ⟨rfl, HB4.out.trans (HB6.out.mono hs4)⟩

/-! ### THE ROW's STEP -/
set_option maxRecDepth 100000 in
theorem lifted (os : Os) (started : os.Started) (H : Type) (enc : TypeId × Value → H) :
    ReturnsInHanded {} Try.checked os 7 .any (Rows.blockApartSpec.pre6 enc Try.prog Try.f7 Rows.blockApartRow.domain false) (Rows.blockApartSpec.post enc Try.prog Try.f7 false true false false) := by
  refine returnsInHanded_of_change (C := Try.checked) own started (by kernel_rfl) Try.func7
    (ChangeSpec.witness6 (enc := enc) (C := Try.checked) false ⟨#[], #[.int .u8 0, .agg #[.int .u8 0, .int .u32 0, .int .u32 0, .int .u32 0, .slice none 0 0], .slice none 0 0], []⟩ 8 (by kernel_rfl) (by kernel_rfl) (by kernel_rfl) (by kernel_rfl)) ?_
  intro W base args ds gs before hval0 hW hcnd _
  have hval : ∀ (j : Nat) t v, Try.f7.params[j]? = some t → args[j]? = some v → Value.okWide Try.prog W .any base t v := hval0
  have hW' := hW
  obtain ⟨p, q, hA0, hV, rfl, hfz, hnd⟩ := hW
  have hA : DataW.TrodAll enc Try.prog W 0 (fun _ => true) true Try.f7.params.toList args.toList ds p := hA0
  rw [Try.params7] at hA hval
  obtain ⟨v0, vs0, d0, ds0, p0, q0, hargs, rfl, rfl, h0, r0⟩ := trodAll_cons hA
  obtain ⟨v1, vs1, d1, ds1, p1, q1, rfl, rfl, rfl, h1, r1⟩ := trodAll_cons r0
  obtain ⟨v2, vs2, d2, ds2, p2, q2, rfl, rfl, rfl, h2, r2⟩ := trodAll_cons r1
  obtain ⟨rfl, rfl, rfl⟩ := trodAll_nil r2
  obtain rfl : args = #[v0, v1, v2] := by cases args; simp_all
  obtain ⟨rfl, rfl⟩ := trodVars_none hV
  have k0 := h0
  have lt0 : ∀ x ∈ p0, x.block < W.heap.size := by obtain ⟨m, hm⟩ := k0; exact DataW.trod_lt m _ _ _ hm
  have k1 := h1
  have lt1 : ∀ x ∈ p1, x.block < W.heap.size := by obtain ⟨m, hm⟩ := k1; exact DataW.trod_lt m _ _ _ hm
  have k2 := h2
  have lt2 : ∀ x ∈ p2, x.block < W.heap.size := by obtain ⟨m, hm⟩ := k2; exact DataW.trod_lt m _ _ _ hm
  obtain ⟨a0, rfl, rfl, rfl, w0⟩ := open_int Try.underlying5 (hval 0 5 v0 rfl rfl) h0
  have w1 : IsBlock6 W v1 := isBlock6_of (hval 1 34 v1 rfl rfl) h1
  obtain ⟨a2, len2, cap2, rfl⟩ := okWide_slice Try.underlying79 (hval 2 79 v2 rfl rfl)
  have w2 : IsMat W a2 len2 cap2 := isMat_of h2
  clear hA0 hval0
  refine (walk a0 v1 a2 len2 cap2 W w0 w1 w2).mono fun e W' ⟨he, bel⟩ => ?_
  subst he
  exact ⟨_, rfl, _, _, _, [], _, [], hW', trodAll_mk1 (shut_bool Try.underlying4 _), (trodAll_cons_mk (Below.trod laidOut (by kernel_rfl) (of_decide_eq_true (by kernel_rfl)) k0 bel lt0) (trodAll_cons_mk (Below.trod laidOut (by kernel_rfl) (of_decide_eq_true (by kernel_rfl)) k1 bel lt1) (trodAll_cons_mk (Below.trod laidOut (by kernel_rfl) (of_decide_eq_true (by kernel_rfl)) k2 bel lt2) trodAll_mk0))), rfl, bel.frame _, fun h => by cases h⟩

theorem over : Rows.blockApartRow.holds Try.pinned (OpenSpec.ofChange Rows.blockApartSpec) :=
  OpenClaim.holds_of_wide 7 Try.f7 rfl rfl rfl rfl rfl rfl rfl ⟨rfl, rfl, rfl, rfl, rfl⟩ rfl rfl rfl rfl rfl (by kernel_rfl) Try.func7 (by kernel_rfl)
    (of_decide_eq_true (by kernel_rfl)) (by unfold Func.isWrapper; first | (rw [if_pos (by decide +kernel)]; kernel_rfl) | (rw [if_neg (by decide +kernel)]; exact ⟨rfl, rfl⟩))
    (fun os started H enc _ => lifted os started H enc)

/-- THE STATEMENT -/
theorem blockApart_holds : Rows.BlockApartSaid := over
#print axioms blockApart_holds
end Go.Proofs.Ytbagpckiegpalaa.blockApart
