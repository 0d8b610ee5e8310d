/-
  A root changes whole: of roots that are stored one behind the other, each with the next turn, a crash in any of them, however it is torn, leaves the one that was, or what the torn sector says, if that is a root whose sum is right; else the last one. No conditions.
  (The frame behind the walk is the guide's shell, at these parameters.)
-/
import Derived.Test.YtbagpckiegpalaaRows
import Derived.WalkKit
import Derived.Test.YtbagpckiegpalaaBkC
import Derived.ProofKit
import Derived.Deep.Cut
import Derived.Deep.CutRange
import Derived.Deep.CutBlock
import Derived.Deep.Grids
import Derived.OpenShut
import Derived.ShutString
import Derived.ChangeOld
import Derived.Below
namespace Go.Proofs.Ytbagpckiegpalaa.blockRoots
open Go.ChangeShapes Go.WideShapes Go.ChangeAt Go.RowKit
open Go.ChangeMaps (open_string shut_string)
set_option linter.unusedVariables false

theorem own : ownKnob Try.prog.godebug = none := by kernel_rfl
theorem laidOut : laidOutB Try.prog = true := by kernel_rfl

theorem rd_old6 {w : World} {v : Value} {l : List UInt8} (h : Rd w v l) (hl : l ≠ []) (k : Nat) (hk : v.ownBlock = some k) : k < w.heap.size := by
  obtain ⟨b, off, cap, rfl, _, _, hb, _⟩ := h.pos (List.length_pos_iff.2 hl)
  have : b = k := Option.some.inj hk
  omega

theorem slab_set4 {w : World} {base b bn bd g : Nat} {wv : Value} {s : Sl} {A B C D : Value} {cs : Array Value} {t : TypeId} {fr : Nat × Nat} (h : SlabAt w base b bn bd wv s) (hg : w.heap[g]? = some (.cells cs t fr)) (h1 : t ≠ 86) (h2 : t ≠ 98) (h3 : t ≠ 100) : SlabAt (set4R w g A B C D) base b bn bd wv s := by
  have hn := h.apart' hg h1 h2 h3
  exact h.keeps (set4_keeps w g A B C D) (fun e => hn (.inl e.symm)) (fun e => hn (.inr (.inl e.symm))) (fun e => hn (.inr (.inr (.inl e.symm)))) (fun k hk e => hn (.inr (.inr (.inr (by rw [← e]; exact hk)))))

set_option maxRecDepth 100000 in
set_option maxHeartbeats 8000000 in
theorem walk (a0 : Option Addr) (len0 cap0 : Nat) (a1 : Int) (a2 : Option Addr) (len2 cap2 : Nat) (z2 : List Int) (a3 : Int) (w : World) (w0 : IsRoots6 w a0 len0 cap0) (w1 : (Lit.int .u8 a1).wf = true) (w2 : IsRow .u8 w a2 len2 cap2 z2) (w3 : (Lit.int .i64 a3).wf = true) :
    Calls Try.prog 5 #[.slice a0 len0 cap0, .int .u8 a1, .slice a2 len2 cap2, .int .i64 a3] w fun e w' => e = .returned (.bool true) ∧ Below w.heap.size w w' := by
  have hob := w0.bounds
  have HOP := hid w0
  obtain ⟨q1, rfl⟩ := Int.eq_ofNat_of_zero_le (show 0 ≤ a1 by have := bounds_u8 w1; omega)
  have hq1 : q1 < 256 := by have := bounds_u8 w1; omega
  obtain ⟨fl, hfl, hfr⟩ := w2.rd len2 (Nat.le_refl _)
  have HFR := hid hfr
  have hfb := w2.bounds
  clear w0 w1 w2 hfr w3
  go_enter Try.func5, Try.ntmps5
  go_wp2_with fail
  refine (awake6_any _).mono ?_
  rintro e wa ⟨rfl, hba⟩
  have HBA := hid hba
  have hsa := hba.size
  clear hba
  go_wp2_with fail
  refine (new_yes 2 wa (by omega) (by omega)).mono ?_
  rintro e w1 ⟨b, bn, bd, rfl, h1, hb1⟩
  have H1 := hid (show SlabAt w1 wa.heap.size b bn bd (.slice none 0 0) (Sl.new 2) from h1)
  have HB1 := hid hb1
  clear h1 hb1
  go_upto_region 5 with fail
  obtain ⟨w2, hw2⟩ : ∃ z, z = w1.alloc (.cells #[.int .u32 0, .int .u32 0, .int .u32 0, .int .u8 0] 48) := ⟨_, rfl⟩
  rw [← hw2]
  obtain ⟨g11, hg11⟩ : ∃ g, g = w1.heap.size := ⟨_, rfl⟩
  rw [← hg11]
  have hb2 : Below w1.heap.size w1 w2 := by rw [hw2]; exact (Below.refl _ _).alloc (Nat.le_refl _) _
  have HL2 := hid (show w2.heap[g11]? = some (.cells (rcelR Rt.zero) 48 (0, 0)) by rw [hw2, hg11]; exact heap_alloc_new _ _)
  have HGB := hid (show wa.heap.size ≤ g11 by rw [hg11]; exact HB1.out.size)
  have H2 := hid (H1.out.below hb2)
  have HB2 := hid (HB1.out.trans (hb2.mono HB1.out.size))
  clear hw2 hg11 hb2
  go_wp2_with fail
  go_loopw [32] (fun i wr => ∃ (j : Nat) (s : Sl) (wv : Value) (last : Rt), j ≤ len0 ∧ j ≤ 20 ∧ i = .int .i64 j ∧ SlabAt wr wa.heap.size b bn bd wv s ∧ RtInv s last j ∧ wr.heap[g11]? = some (.cells (rcelR last) 48 (0, 0)) ∧ Below wa.heap.size wa wr) (fun i _ => len0 - (intOf i).toNat)
  case atStart => exact ⟨0, Sl.new 2, _, Rt.zero, by omega, by omega, rfl, H2.out, rtInv_new, HL2.out, HB2.out⟩
  case round =>
    obtain ⟨j, s, wv, last, hj, hj2, rfl, hs, hi, hl, hB⟩ := hrel
    have HS := hid hs
    have HI := hid hi
    have HL := hid hl
    have HB := hid hB
    have HBW := hid (HBA.out.trans (hB.mono hsa))
    have HST := hid (show s.steps ≤ 999990 ∧ s.way.length < 999990 from ⟨by have := hi.steps; omega, by rw [hi.way]; decide⟩)
    clear hs hi hl hB
    by_cases hlt : j < len0
    · by_cases hj20 : j < 20
      · obtain ⟨ob, off, tn, en, gn, an, rfl, hen, hgn, han, hobl, c0, c1, c2, c3⟩ := HOP.out.at HBW.out hlt
        have hjl : (j : Int) < (len0 : Int) := by omega
        have hj20i : decide ((j : Int) ≥ 20) = false := decide_eq_false (by omega)
        have hj20n : ¬ (20 : Int) ≤ (j : Int) := by omega
        go_upto_region 9 with fail
        obtain ⟨wo, hwo⟩ : ∃ z, z = wr.alloc (.cells #[.int .u32 (tn : Int), .int .u32 (en : Int), .int .u32 (gn : Int), .int .u8 (an : Int)] 36) := ⟨_, rfl⟩
        rw [← hwo]
        obtain ⟨g13, hg13⟩ : ∃ g, g = wr.heap.size := ⟨_, rfl⟩
        rw [← hg13]
        have hbo : Below wr.heap.size wr wo := by rw [hwo]; exact (Below.refl _ _).alloc (Nat.le_refl _) _
        have HGo := hid (show wo.heap[g13]? = some (.cells #[.int .u32 (tn : Int), .int .u32 (en : Int), .int .u32 (gn : Int), .int .u8 (an : Int)] 36 (0, 0)) by rw [hwo, hg13]; exact heap_alloc_new _ _)
        have HG13 := hid (show wr.heap.size ≤ g13 by omega)
        obtain ⟨am, ham⟩ : ∃ k, k = an % 2 := ⟨_, rfl⟩
        have k3 := hid (show (an : Int) % 2 = (am : Int) by omega)
        have k4 := hid (show (an : Int).tmod 2 = (am : Int) by rw [Int.tmod_eq_emod_of_nonneg (by omega)]; omega)
        have HAM := hid (show am < 2 by omega)
        obtain ⟨⟨m0, m1, m2, m3⟩, f0, f1, f2, f3⟩ := zero4 HGo.out
        clear hwo hg13 ham c0 c1 c2 c3
        have k3 := k3.out
        have k4 := k4.out
        go_upto_region 10 with fail
        obtain ⟨w3, hw3⟩ : ∃ z, z = (wo.setCell ⟨g13, 0, none⟩ (.int .u32 ((j : Int) + 1))).setCell ⟨g13, 3, none⟩ (.int .u8 (am : Int)) := ⟨_, rfl⟩
        rw [← hw3]
        have HG3 := hid (show w3.heap[g13]? = some (.cells #[.int .u32 ((j : Int) + 1), .int .u32 (en : Int), .int .u32 (gn : Int), .int .u8 (am : Int)] 36 (0, 0)) by
          rw [hw3, setCell_heapS _ _ _ _ _ _ _ (setCell_heapS _ _ _ _ _ _ _ HGo.out)]
          simp)
        have hk3 : Below wr.heap.size wr w3 := by rw [hw3]; exact (hbo.setCell (p := ⟨g13, 0, none⟩) HG13.out _).setCell (p := ⟨g13, 3, none⟩) HG13.out _
        have HS3 := hid (HS.out.below hk3)
        have HL3 := hid ((hk3.block g11 (Array.getElem?_eq_some_iff.1 HL.out).1).trans HL.out)
        have HB3 := hid (HB.out.trans (hk3.mono HB.out.size))
        obtain ⟨r, hr⟩ : ∃ r : Rt, r = ⟨BitVec.ofNat 32 (j + 1), BitVec.ofNat 32 en, BitVec.ofNat 32 gn, UInt8.ofNat am⟩ := ⟨_, rfl⟩
        have HRT := hid (show r.turn.toNat = j + 1 by rw [hr]; simp; omega)
        have HRE := hid (show r.epoch.toNat = en by rw [hr]; simp; omega)
        have HRG := hid (show r.gen.toNat = gn by rw [hr]; simp; omega)
        have HRA := hid (show r.area.toNat = am by rw [hr]; have := HAM.out; simp; omega)
        have HRV := hid (show r.val = .agg #[.int .u32 ((j : Int) + 1), .int .u32 (en : Int), .int .u32 (gn : Int), .int .u8 (am : Int)] by unfold Rt.val; rw [HRT.out, HRE.out, HRG.out, HRA.out]; simp)
        have HRC := hid (show rcelR r = #[.int .u32 ((j : Int) + 1), .int .u32 (en : Int), .int .u32 (gn : Int), .int .u8 (am : Int)] by unfold rcelR; rw [HRT.out, HRE.out, HRG.out, HRA.out]; simp)
        clear hr hw3 hk3 hbo m0 m1 m2 m3 f0 f1 f2 f3 hen hgn han k3 k4
        obtain ⟨⟨m0, m1, m2, m3⟩, f0, f1, f2, f3⟩ := zero4 HG3.out
        by_cases hj0 : j = 0
        · as_aux_lemma =>
            have hjb : ((j : Int) == 0) = true := by simp [hj0]
            clear hj0
            obtain ⟨s', hs', hi'⟩ := HI.out.store HS3.out.okay r (by rw [HRA.out]; exact HAM.out) (by rw [HRT.out])
            have HSTO := hid (show Calls Try.prog 17 #[.pointer (some ⟨b, 0, none⟩), .agg #[.int .u32 ((j : Int) + 1), .int .u32 (en : Int), .int .u32 (gn : Int), .int .u8 (am : Int)]] w3 (fun e w' => ∃ v', e = .returned (.int .i64 0) ∧ SlabAt w' wa.heap.size b bn bd v' s' ∧ KT slabTs wa.heap.size w3 w') from by
              have h := store_any wa.heap.size b bn bd wv s r w3 HS3.out HST.out.1 HST.out.2 (by rw [HRA.out]; exact HAM.out)
              rw [hs', HRV.out] at h
              exact h)
            have HI' := hid hi'
            clear hs' hi'
            go_upto_region 13 with (first
              | (go_at_call 17; refine (HSTO.out).mono ?_; rintro e w4 ⟨v4, rfl, h4, k4⟩)
              | fail)
            have HG4 := hid (k4.block HG3.out (by decide))
            have HL4 := hid (k4.block HL3.out (by decide))
            have HS4 := hid h4
            have HB4 := hid (HB3.out.trans k4.below)
            clear m0 m1 m2 m3 f0 f1 f2 f3 h4 k4
            obtain ⟨⟨m0, m1, m2, m3⟩, -, -, -, -⟩ := zero4 HG4.out
            obtain ⟨⟨p0, p1, p2, p3⟩, f0, f1, f2, f3⟩ := zero4 HL4.out
            go_wp2_with fail
            go_roundw
            case rel =>
              refine ⟨j + 1, s', v4, r, hlt, by omega, by go_num, slab_set4 HS4.out HL4.out (by decide) (by decide) (by decide), HI'.out, ?_, set4_below HB4.out HGB.out⟩
              rw [HRC.out]
              exact set4_heap HL4.out
            case measure => simp [intOf]; omega
        · have hjb : ((j : Int) == 0) = false := by simp; omega
          have HJ0 := hid (show 0 < j by omega)
          clear hj0
          obtain ⟨a20, ha20⟩ : ∃ k, k = q1 % 20 := ⟨_, rfl⟩
          have k5 : (q1 : Int) % 20 = (a20 : Int) := by omega
          have k6 : (q1 : Int).tmod 20 = (a20 : Int) := by rw [Int.tmod_eq_emod_of_nonneg (by omega)]; omega
          have HA20 := hid ha20
          clear ha20
          by_cases hat : j = a20
          · have hab : ((j : Int) == (a20 : Int)) = true := by simp [hat]
            clear hat
            obtain ⟨d20, hd20⟩ : ∃ k, k = q1 / 20 := ⟨_, rfl⟩
            obtain ⟨n2, hn2⟩ : ∃ k, k = d20 % 2 := ⟨_, rfl⟩
            obtain ⟨nn, hnn⟩ : ∃ k, k = 1 + n2 := ⟨_, rfl⟩
            have y1 : (q1 : Int) / 20 = (d20 : Int) := by omega
            have y2 : (q1 : Int).tdiv 20 = (d20 : Int) := by rw [Int.tdiv_eq_ediv_of_nonneg (by omega)]; omega
            have y3 : (d20 : Int) % 2 = (n2 : Int) := by omega
            have y4 : (d20 : Int).tmod 2 = (n2 : Int) := by rw [Int.tmod_eq_emod_of_nonneg (by omega)]; omega
            have HN2 := hid (show nn = 1 ∨ nn = 2 by omega)
            have HNN := hid (show (1 : Int) + (n2 : Int) = (nn : Int) by omega)
            obtain ⟨kk, hkk⟩ : ∃ k, k = (j + 1) % 2 := ⟨_, rfl⟩
            have HKK := hid (show kk < 2 ∧ kk = 1 - j % 2 by omega)
            have z1 := hid (show ((j : Int) + 1) % 2 = (kk : Int) by omega)
            have z2 := hid (show ((j : Int) + 1).tmod 2 = (kk : Int) by rw [Int.tmod_eq_emod_of_nonneg (by omega)]; omega)
            obtain ⟨s', hs', hsn, htr⟩ := HI.out.tear HJ0.out HS3.out.okay nn HN2.out r (by rw [HRA.out]; exact HAM.out) (by rw [HRT.out])
            obtain ⟨sa, hsa2⟩ : ∃ x : Sl, x = { s with armed := nn } := ⟨_, rfl⟩
            rw [← hsa2] at hs'
            have HARM := hid (show Calls Try.prog 27 #[.pointer (some ⟨b, 0, none⟩), .int .i64 (nn : Int)] w3 (fun e w' => e = .returned (.int .i64 0) ∧ SlabAt w' wa.heap.size b bn bd wv sa ∧ KT slabTs wa.heap.size w3 w') from by
              have h := arm_all wa.heap.size b bn bd wv s (nn : Int) w3 HS3.out (by have := HN2.out; omega)
              rw [show s.arm (nn : Int) = (sa, 0) by unfold Sl.arm; rw [if_neg (by omega), Int.toNat_natCast, hsa2]] at h
              refine h.mono ?_
              rintro e w' ⟨rfl, h1, h2⟩
              exact ⟨rfl, h1, slab_KT HS3.out h2⟩)
            have HSTO := hid (show ∀ W, SlabAt W wa.heap.size b bn bd wv sa → Calls Try.prog 17 #[.pointer (some ⟨b, 0, none⟩), .agg #[.int .u32 ((j : Int) + 1), .int .u32 (en : Int), .int .u32 (gn : Int), .int .u8 (am : Int)]] W (fun e w' => ∃ v', e = .returned (.int .i64 13) ∧ SlabAt w' wa.heap.size b bn bd v' s' ∧ KT slabTs wa.heap.size W w') from fun W hW => by
              have h := store_any wa.heap.size b bn bd wv sa r W hW (by rw [hsa2]; exact HST.out.1) (by rw [hsa2]; exact HST.out.2) (by rw [HRA.out]; exact HAM.out)
              rw [hs', HRV.out] at h
              exact h)
            have HTR := hid htr
            obtain ⟨s2, hs2⟩ : ∃ x, x = s'.crash fl a3 := ⟨_, rfl⟩
            have HS2 := hid hs2
            clear hd20 hn2 hnn hkk hs' hsn htr hsa2 hs2
            have y5 := HNN.out
            go_upto_region 16 with (first
              | (go_at_call 27; refine (HARM.out).mono ?_; rintro e w4 ⟨rfl, h4, k4⟩)
              | fail)
            have HG4 := hid (k4.block HG3.out (by decide))
            have HL4 := hid (k4.block HL3.out (by decide))
            have HS4 := hid h4
            have HB4 := hid (HB3.out.trans k4.below)
            clear m0 m1 m2 m3 f0 f1 f2 f3 h4 k4 y1 y2 y3 y4 y5 k5 k6
            obtain ⟨⟨m0, m1, m2, m3⟩, -, -, -, -⟩ := zero4 HG4.out
            have HST4 := hid (HSTO.out w4 HS4.out)
            go_upto_region 18 with (first
              | (go_at_call 17; refine (HST4.out).mono ?_; rintro e w5 ⟨v5, rfl, h5, k5⟩)
              | fail)
            have HL5 := hid (k5.block HL4.out (by decide))
            have HS5 := hid h5
            have HB5 := hid (HB4.out.trans k5.below)
            clear m0 m1 m2 m3 h5 k5
            have HC2 := hid (HTR.out HS5.out.okay fl a3)
            rw [← HS2.out] at HC2
            have HCR := hid (show Calls Try.prog 25 #[.pointer (some ⟨b, 0, none⟩), .slice a2 len2 cap2, .int .i64 a3] w5 (fun e w' => e = .returned (.int .i64 0) ∧ SlabAt w' wa.heap.size b bn bd (.slice none 0 0) s2 ∧ KT slabTs wa.heap.size w5 w') from by
              have h := crash_all wa.heap.size b bn bd v5 s' (.slice a2 len2 cap2) fl a3 w5 HS5.out (HFR.out.below (HBA.out.trans (HB5.out.mono hsa))) (fun hne q hq => by have := rd_old6 HFR.out hne q hq; have := HS5.out.low bd (.inr (.inr (.inl rfl))); omega)
              rw [← HS2.out] at h
              refine h.mono ?_
              rintro e w' ⟨rfl, h1, h2⟩
              exact ⟨rfl, h1, slab_KT HS5.out h2⟩)
            go_upto_region 20 with (first
              | (go_at_call 25; refine (HCR.out).mono ?_; rintro e w6 ⟨rfl, h6, k6⟩)
              | fail)
            have HL6 := hid (k6.block HL5.out (by decide))
            have HS6 := hid h6
            have HB6 := hid (HB5.out.trans k6.below)
            clear h6 k6
            obtain ⟨tt, htt⟩ : ∃ x, x = sect s2.now kk := ⟨_, rfl⟩
            have HRDK := hid (show Calls Try.prog 31 #[.pointer (some ⟨b, 0, none⟩), .int .i64 (kk : Int)] w6 (fun e w' => ∃ v, e = .returned (.tuple #[v, .int .i64 0]) ∧ Rd w' v tt ∧ tt.length = 128 ∧ Below w6.heap.size w6 w') from by
              have h := read_all wa.heap.size b bn bd (.slice none 0 0) s2 (kk : Int) w6 HS6.out
              rw [calm_read HC2.out.1 kk HKK.out.1, ← htt] at h
              refine h.mono ?_
              rintro e w' ⟨v, rfl, ha⟩
              refine ⟨v, rfl, ha.rd, ?_, ha.below⟩
              rcases ha with ⟨h, _⟩ | ⟨_, h, _⟩
              · exact absurd rfl h
              · exact h)
            have hlp := load_pair s2 HC2.out.1 (j % 2) (by omega) last (by rw [HC2.out.2]; exact HI.out.last0 HJ0.out)
            rw [← HKK.out.2, ← htt] at hlp
            obtain ⟨now, hnow, hcase⟩ := hlp
            have HNOW := hid hnow
            have HCASE := hid hcase
            clear hnow hcase htt
            have z1 := z1.out
            have z2 := z2.out
            go_upto_region 21 with (first
              | (go_at_call 31; refine (HRDK.out).mono ?_; rintro e w7 ⟨v7, rfl, hr7, htl, hb7⟩)
              | fail)
            have HR7 := hid hr7
            have HTL := hid htl
            have HB7 := hid hb7
            clear z1 z2 hr7 htl hb7
            obtain ⟨B, hB⟩ : ∃ B, B = (said tt).2 := ⟨_, rfl⟩
            obtain ⟨ec, hec⟩ : ∃ e, e = (said tt).1 := ⟨_, rfl⟩
            obtain ⟨kn, hkn⟩ : ∃ k, k = B.kind.toNat := ⟨_, rfl⟩
            obtain ⟨en2, hen⟩ : ∃ k, k = B.epoch.toNat := ⟨_, rfl⟩
            obtain ⟨xn, hxn⟩ : ∃ k, k = B.a.toNat := ⟨_, rfl⟩
            obtain ⟨yn, hyn⟩ : ∃ k, k = B.b.toNat := ⟨_, rfl⟩
            obtain ⟨n, hn⟩ : ∃ n, n = B.data.length := ⟨_, rfl⟩
            have HBV := hid (fun dv => show B.val dv = .agg #[.int .u8 (kn : Int), .int .u32 (en2 : Int), .int .u32 (xn : Int), .int .u32 (yn : Int), dv] from by unfold Blk.val; rw [hkn, hen, hxn, hyn])
            have HRR := hid (refread_any w7 v7 tt HR7.out HTL.out)
            rw [← hB, ← hec] at HRR
            have HSB := hid (show (said tt).2 = B ∧ (said tt).1 = ec from ⟨hB.symm, hec.symm⟩)
            have HNL := hid hn
            have HXN := hid hxn
            have HEN := hid hen
            have HYN := hid hyn
            clear hB hec hkn hen hxn hyn hn
            go_upto_region 22 with (first
              | (go_at_call 30; refine (HRR.out).mono ?_; rintro e w8 ⟨dv, rfl, ho8, hb8⟩; obtain ⟨ua, uc, rfl⟩ := rd_slice ho8.rd; rw [← HNL.out, HBV.out]; rw [← HNL.out] at ho8)
              | fail)
            obtain ⟨w9, hw9⟩ : ∃ z, z = w8.alloc (.cells #[.int .u8 (kn : Int), .int .u32 (en2 : Int), .int .u32 (xn : Int), .int .u32 (yn : Int), .slice ua n uc] 34) := ⟨_, rfl⟩
            rw [← hw9]
            obtain ⟨g17, hg17⟩ : ∃ g, g = w8.heap.size := ⟨_, rfl⟩
            rw [← hg17]
            have hb9 : Below w8.heap.size w8 w9 := by rw [hw9]; exact (Below.refl _ _).alloc (Nat.le_refl _) _
            have HG9 := hid (show w9.heap[g17]? = some (.cells #[.int .u8 (kn : Int), .int .u32 (en2 : Int), .int .u32 (xn : Int), .int .u32 (yn : Int), .slice ua n uc] 34 (0, 0)) by rw [hw9, hg17]; exact heap_alloc_new _ _)
            have hb69 := (HB7.out.trans (hb8.mono HB7.out.size)).trans (hb9.mono (HB7.out.trans (hb8.mono HB7.out.size)).size)
            have HR9 := hid (ho8.rd.below hb9)
            have HS9 := hid (HS6.out.below hb69)
            have HL9 := hid ((hb69.block g11 (Array.getElem?_eq_some_iff.1 HL6.out).1).trans HL6.out)
            have HB9 := hid (HB6.out.trans (hb69.mono HB6.out.size))
            clear hw9 hg17 hb9 hb69 ho8 hb8
            have HLD := hid (load_any wa.heap.size b bn bd (.slice none 0 0) s2 w9 HS9.out)
            rw [HNOW.out] at HLD
            dsimp only at HLD
            obtain ⟨nt, hnt⟩ : ∃ k, k = now.turn.toNat := ⟨_, rfl⟩
            obtain ⟨ne, hne⟩ : ∃ k, k = now.epoch.toNat := ⟨_, rfl⟩
            obtain ⟨ng, hng⟩ : ∃ k, k = now.gen.toNat := ⟨_, rfl⟩
            obtain ⟨na, hna⟩ : ∃ k, k = now.area.toNat := ⟨_, rfl⟩
            have HNV := hid (show now.val = .agg #[.int .u32 (nt : Int), .int .u32 (ne : Int), .int .u32 (ng : Int), .int .u8 (na : Int)] by unfold Rt.val; rw [hnt, hne, hng, hna])
            rw [HNV.out] at HLD
            have HNT := hid (show nt = now.turn.toNat ∧ ne = now.epoch.toNat ∧ ng = now.gen.toNat ∧ na = now.area.toNat from ⟨hnt, hne, hng, hna⟩)
            clear hnt hne hng hna
            go_upto_region 23 with (first
              | (go_at_call 19; refine (HLD.out).mono ?_; rintro e w10 ⟨rfl, hb10⟩)
              | fail)
            obtain ⟨w11, hw11⟩ : ∃ z, z = w10.alloc (.cells #[.int .u32 (nt : Int), .int .u32 (ne : Int), .int .u32 (ng : Int), .int .u8 (na : Int)] 48) := ⟨_, rfl⟩
            rw [← hw11]
            obtain ⟨g19, hg19⟩ : ∃ g, g = w10.heap.size := ⟨_, rfl⟩
            rw [← hg19]
            have hb11 : Below w10.heap.size w10 w11 := by rw [hw11]; exact (Below.refl _ _).alloc (Nat.le_refl _) _
            have HG11 := hid (show w11.heap[g19]? = some (.cells #[.int .u32 (nt : Int), .int .u32 (ne : Int), .int .u32 (ng : Int), .int .u8 (na : Int)] 48 (0, 0)) by rw [hw11, hg19]; exact heap_alloc_new _ _)
            have hb911 := hb10.trans (hb11.mono hb10.size)
            have HR11 := hid (HR9.out.below hb911)
            have HQ11 := hid ((hb911.block g17 (Array.getElem?_eq_some_iff.1 HG9.out).1).trans HG9.out)
            have HL11 := hid ((hb911.block g11 (Array.getElem?_eq_some_iff.1 HL9.out).1).trans HL9.out)
            have HB11 := hid (HBA.out.trans ((HB9.out.trans (hb911.mono HB9.out.size)).mono hsa))
            clear hw11 hg19 hb11 hb911 hb10
            obtain ⟨⟨m0, m1, m2, m3, m4⟩, -, -, -, -, -⟩ := zero5 HQ11.out
            obtain ⟨⟨p0, p1, p2, p3⟩, -, -, -, -⟩ := zero4 HG11.out
            obtain ⟨lt, hlt2⟩ : ∃ k, k = last.turn.toNat := ⟨_, rfl⟩
            obtain ⟨le, hle2⟩ : ∃ k, k = last.epoch.toNat := ⟨_, rfl⟩
            obtain ⟨lg, hlg2⟩ : ∃ k, k = last.gen.toNat := ⟨_, rfl⟩
            obtain ⟨la, hla2⟩ : ∃ k, k = last.area.toNat := ⟨_, rfl⟩
            have hl11 := HL11.out
            unfold rcelR at hl11
            rw [← hlt2, ← hle2, ← hlg2, ← hla2] at hl11
            obtain ⟨⟨o0, o1, o2, o3⟩, -, -, -, -⟩ := zero4 hl11
            have HLT := hid (show lt = last.turn.toNat ∧ le = last.epoch.toNat ∧ lg = last.gen.toNat ∧ la = last.area.toNat from ⟨hlt2, hle2, hlg2, hla2⟩)
            clear hlt2 hle2 hlg2 hla2 hl11
            by_cases he : ec = 0
            · subst he
              by_cases hn : n = 1
              · subst hn
                obtain ⟨gd, off2, cp, e, h1, h2, hgl, hcl⟩ := HR11.out.pos (by rw [← HNL.out]; omega)
                simp only [Value.slice.injEq] at e
                obtain ⟨rfl, -, rfl⟩ := e
                have c0 := hcl 0 (by rw [← HNL.out]; omega)
                obtain ⟨dn, hdn⟩ : ∃ k, k = (B.data.getD 0 0).toNat := ⟨_, rfl⟩
                rw [bv_eq, ← hdn, Nat.add_zero] at c0
                have HDN := hid hdn
                clear h1 h2 hgl hcl hdn
                rcases HCASE.out with hc | hc
                · have e1 : nt = lt ∧ ne = le ∧ ng = lg ∧ na = la := by
                    obtain ⟨n1, n2, n3, n4⟩ := HNT.out
                    obtain ⟨l1, l2, l3, l4⟩ := HLT.out
                    rw [hc] at n1 n2 n3 n4
                    exact ⟨n1.trans l1.symm, n2.trans l2.symm, n3.trans l3.symm, n4.trans l4.symm⟩
                  obtain ⟨rfl, rfl, rfl, rfl⟩ := e1
                  clear hc
                  have h5 : (¬ nt = xn) ∨ (nt = xn ∧ ¬ ne = en2) ∨ (nt = xn ∧ ne = en2 ∧ ¬ ng = yn) ∨ (nt = xn ∧ ne = en2 ∧ ng = yn ∧ ¬ na = dn) ∨ (nt = xn ∧ ne = en2 ∧ ng = yn ∧ na = dn) := by omega
                  rcases h5 with h0 | ⟨h0, h1⟩ | ⟨h0, h1, h2⟩ | ⟨h0, h1, h2, h3⟩ | ⟨h0, h1, h2, h3⟩
                  · as_aux_lemma =>
                      have q0 : ((nt : Int) == (xn : Int)) = false := by simp; omega
                      clear h0
                      go_quiet (fail)
                      go_wp2_with fail
                      go_ret
                      exact ⟨rfl, below_behindB HB11.out _⟩
                  · as_aux_lemma =>
                      have q0 : ((nt : Int) == (xn : Int)) = true := by simp [h0]
                      have q1 : ((ne : Int) == (en2 : Int)) = false := by simp; omega
                      clear h0 h1
                      go_quiet (fail)
                      go_wp2_with fail
                      go_ret
                      exact ⟨rfl, below_behindB HB11.out _⟩
                  · as_aux_lemma =>
                      have q0 : ((nt : Int) == (xn : Int)) = true := by simp [h0]
                      have q1 : ((ne : Int) == (en2 : Int)) = true := by simp [h1]
                      have q2 : ((ng : Int) == (yn : Int)) = false := by simp; omega
                      clear h0 h1 h2
                      go_quiet (fail)
                      go_wp2_with fail
                      go_ret
                      exact ⟨rfl, below_behindB HB11.out _⟩
                  · as_aux_lemma =>
                      have q0 : ((nt : Int) == (xn : Int)) = true := by simp [h0]
                      have q1 : ((ne : Int) == (en2 : Int)) = true := by simp [h1]
                      have q2 : ((ng : Int) == (yn : Int)) = true := by simp [h2]
                      have q3 : ((na : Int) == (dn : Int)) = false := by simp; omega
                      clear h0 h1 h2 h3
                      go_quiet (fail)
                      go_wp2_with fail
                      go_ret
                      exact ⟨rfl, below_behindB HB11.out _⟩
                  · as_aux_lemma =>
                      have q0 : ((nt : Int) == (xn : Int)) = true := by simp [h0]
                      have q1 : ((ne : Int) == (en2 : Int)) = true := by simp [h1]
                      have q2 : ((ng : Int) == (yn : Int)) = true := by simp [h2]
                      have q3 : ((na : Int) == (dn : Int)) = true := by simp [h3]
                      clear h0 h1 h2 h3
                      go_quiet (fail)
                      go_wp2_with fail
                      go_ret
                      exact ⟨rfl, below_behindB HB11.out _⟩
                · have e2 : nt = xn ∧ ne = en2 ∧ ng = yn ∧ na = dn := by
                    obtain ⟨n1, n2, n3, n4⟩ := HNT.out
                    have hrt := (rootOf_some hc).2.2
                    rw [HSB.out.1] at hrt
                    rw [← hrt] at n1 n2 n3 n4
                    exact ⟨n1.trans HXN.out.symm, n2.trans HEN.out.symm, n3.trans HYN.out.symm, n4.trans HDN.out.symm⟩
                  clear hc
                  have h5 : (¬ xn = lt) ∨ (xn = lt ∧ ¬ en2 = le) ∨ (xn = lt ∧ en2 = le ∧ ¬ yn = lg) ∨ (xn = lt ∧ en2 = le ∧ yn = lg ∧ ¬ dn = la) ∨ (xn = lt ∧ en2 = le ∧ yn = lg ∧ dn = la) := by omega
                  obtain ⟨rfl, rfl, rfl, rfl⟩ := e2
                  rcases h5 with h0 | ⟨h0, h1⟩ | ⟨h0, h1, h2⟩ | ⟨h0, h1, h2, h3⟩ | ⟨h0, h1, h2, h3⟩
                  · as_aux_lemma =>
                      have q0 : ((nt : Int) == (lt : Int)) = false := by simp; omega
                      clear h0
                      go_quiet (fail)
                      go_wp2_with fail
                      go_ret
                      exact ⟨rfl, below_behindB HB11.out _⟩
                  · as_aux_lemma =>
                      have q0 : ((nt : Int) == (lt : Int)) = true := by simp [h0]
                      have q1 : ((ne : Int) == (le : Int)) = false := by simp; omega
                      clear h0 h1
                      go_quiet (fail)
                      go_wp2_with fail
                      go_ret
                      exact ⟨rfl, below_behindB HB11.out _⟩
                  · as_aux_lemma =>
                      have q0 : ((nt : Int) == (lt : Int)) = true := by simp [h0]
                      have q1 : ((ne : Int) == (le : Int)) = true := by simp [h1]
                      have q2 : ((ng : Int) == (lg : Int)) = false := by simp; omega
                      clear h0 h1 h2
                      go_quiet (fail)
                      go_wp2_with fail
                      go_ret
                      exact ⟨rfl, below_behindB HB11.out _⟩
                  · as_aux_lemma =>
                      have q0 : ((nt : Int) == (lt : Int)) = true := by simp [h0]
                      have q1 : ((ne : Int) == (le : Int)) = true := by simp [h1]
                      have q2 : ((ng : Int) == (lg : Int)) = true := by simp [h2]
                      have q3 : ((na : Int) == (la : Int)) = false := by simp; omega
                      clear h0 h1 h2 h3
                      go_quiet (fail)
                      go_wp2_with fail
                      go_ret
                      exact ⟨rfl, below_behindB HB11.out _⟩
                  · as_aux_lemma =>
                      have q0 : ((nt : Int) == (lt : Int)) = true := by simp [h0]
                      have q1 : ((ne : Int) == (le : Int)) = true := by simp [h1]
                      have q2 : ((ng : Int) == (lg : Int)) = true := by simp [h2]
                      have q3 : ((na : Int) == (la : Int)) = true := by simp [h3]
                      clear h0 h1 h2 h3
                      go_quiet (fail)
                      go_wp2_with fail
                      go_ret
                      exact ⟨rfl, below_behindB HB11.out _⟩
              · have hnb : ((n : Int) == 1) = false := by simp; omega
                have hc : now = last := by
                  rcases HCASE.out with hc | hc
                  · exact hc
                  · exfalso
                    have hrt := rootOf_some hc
                    rw [HSB.out.1, HSB.out.2] at hrt
                    exact hn (HNL.out.trans hrt.2.1)
                have e1 : nt = lt ∧ ne = le ∧ ng = lg ∧ na = la := by
                  obtain ⟨n1, n2, n3, n4⟩ := HNT.out
                  obtain ⟨l1, l2, l3, l4⟩ := HLT.out
                  rw [hc] at n1 n2 n3 n4
                  exact ⟨n1.trans l1.symm, n2.trans l2.symm, n3.trans l3.symm, n4.trans l4.symm⟩
                obtain ⟨rfl, rfl, rfl, rfl⟩ := e1
                clear hc
                clear hn
                go_quiet (fail)
                go_wp2_with fail
                go_ret
                exact ⟨rfl, below_behindB HB11.out _⟩
            · have heb : (ec == 0) = false := by simpa using he
              have hc : now = last := by
                rcases HCASE.out with hc | hc
                · exact hc
                · exfalso
                  have hrt := rootOf_some hc
                  rw [HSB.out.1, HSB.out.2] at hrt
                  exact he hrt.1
              have e1 : nt = lt ∧ ne = le ∧ ng = lg ∧ na = la := by
                obtain ⟨n1, n2, n3, n4⟩ := HNT.out
                obtain ⟨l1, l2, l3, l4⟩ := HLT.out
                rw [hc] at n1 n2 n3 n4
                exact ⟨n1.trans l1.symm, n2.trans l2.symm, n3.trans l3.symm, n4.trans l4.symm⟩
              obtain ⟨rfl, rfl, rfl, rfl⟩ := e1
              clear hc
              clear he
              go_quiet (fail)
              go_wp2_with fail
              go_ret
              exact ⟨rfl, below_behindB HB11.out _⟩
          · as_aux_lemma =>
            have hab : ((j : Int) == (a20 : Int)) = false := by simp; omega
            clear hat
            obtain ⟨s', hs', hi'⟩ := HI.out.store HS3.out.okay r (by rw [HRA.out]; exact HAM.out) (by rw [HRT.out])
            have HSTO := hid (show Calls Try.prog 17 #[.pointer (some ⟨b, 0, none⟩), .agg #[.int .u32 ((j : Int) + 1), .int .u32 (en : Int), .int .u32 (gn : Int), .int .u8 (am : Int)]] w3 (fun e w' => ∃ v', e = .returned (.int .i64 0) ∧ SlabAt w' wa.heap.size b bn bd v' s' ∧ KT slabTs wa.heap.size w3 w') from by
              have h := store_any wa.heap.size b bn bd wv s r w3 HS3.out HST.out.1 HST.out.2 (by rw [HRA.out]; exact HAM.out)
              rw [hs', HRV.out] at h
              exact h)
            have HI' := hid hi'
            clear hs' hi'
            go_upto_region 25 with (first
              | (go_at_call 17; refine (HSTO.out).mono ?_; rintro e w4 ⟨v4, rfl, h4, k4⟩)
              | fail)
            have HG4 := hid (k4.block HG3.out (by decide))
            have HL4 := hid (k4.block HL3.out (by decide))
            have HS4 := hid h4
            have HB4 := hid (HB3.out.trans k4.below)
            clear m0 m1 m2 m3 f0 f1 f2 f3 h4 k4
            obtain ⟨⟨m0, m1, m2, m3⟩, -, -, -, -⟩ := zero4 HG4.out
            obtain ⟨⟨p0, p1, p2, p3⟩, f0, f1, f2, f3⟩ := zero4 HL4.out
            go_wp2_with fail
            go_roundw
            case rel =>
              refine ⟨j + 1, s', v4, r, hlt, by omega, by go_num, slab_set4 HS4.out HL4.out (by decide) (by decide) (by decide), HI'.out, ?_, set4_below HB4.out HGB.out⟩
              rw [HRC.out]
              exact set4_heap HL4.out
            case measure => simp [intOf]; omega
      · have hj20i : decide ((j : Int) ≥ 20) = true := decide_eq_true (by omega)
        have hj20n : (20 : Int) ≤ (j : Int) := by omega
        have hjl : (j : Int) < (len0 : Int) := by omega
        obtain ⟨ob, off, tn, en, gn, an, rfl, hen, hgn, han, hobl, c0, c1, c2, c3⟩ := HOP.out.at HBW.out hlt
        go_upto_region 27 with fail
        obtain ⟨wx, hwx⟩ : ∃ z, z = wr.alloc (.cells #[.int .u32 (tn : Int), .int .u32 (en : Int), .int .u32 (gn : Int), .int .u8 (an : Int)] 36) := ⟨_, rfl⟩
        rw [← hwx]
        have hbx : Below wr.heap.size wr wx := by rw [hwx]; exact (Below.refl _ _).alloc (Nat.le_refl _) _
        have HS := hid (HS.out.below hbx)
        have HL := hid ((hbx.block g11 (Array.getElem?_eq_some_iff.1 HL.out).1).trans HL.out)
        have HBW := hid (HBW.out.trans (hbx.mono HBW.out.size))
        clear hwx hbx c0 c1 c2 c3
        have HLD := hid (load_any wa.heap.size b bn bd wv s wx HS.out)
        by_cases hz : len0 = 0
        · as_aux_lemma =>
            have hzb : ((len0 : Int) == 0) = true := by simp [hz]
            clear hz
            obtain ⟨q, hq⟩ : ∃ q, q = s.loadb := ⟨_, rfl⟩
            rw [← hq] at HLD
            clear hq
            obtain ⟨rt, er⟩ := q
            unfold Rt.val at HLD
            dsimp only at HLD
            go_wp2_with (first
              | (go_at_call 19; refine (HLD.out).mono ?_; rintro e w4 ⟨rfl, hb4⟩)
              | fail)
            go_ret
            exact ⟨rfl, (HBW.out.trans (hb4.mono HBW.out.size)).alloc (HBW.out.trans (hb4.mono HBW.out.size)).size _⟩
        · as_aux_lemma =>
            have hzb : ((len0 : Int) == 0) = false := by simp; omega
            have hlo := HI.out.load (by omega)
            rw [hlo] at HLD
            clear hlo hz
            obtain ⟨lt, hlt2⟩ : ∃ k, k = last.turn.toNat := ⟨_, rfl⟩
            obtain ⟨le, hle2⟩ : ∃ k, k = last.epoch.toNat := ⟨_, rfl⟩
            obtain ⟨lg, hlg2⟩ : ∃ k, k = last.gen.toNat := ⟨_, rfl⟩
            obtain ⟨la, hla2⟩ : ∃ k, k = last.area.toNat := ⟨_, rfl⟩
            have hlv := HL.out
            unfold rcelR at hlv
            unfold Rt.val at HLD
            dsimp only at HLD
            rw [← hlt2, ← hle2, ← hlg2, ← hla2] at hlv HLD
            have HLV := hid hlv
            clear hlt2 hle2 hlg2 hla2 hlv
            go_upto_region 28 with (first
              | (go_at_call 19; refine (HLD.out).mono ?_; rintro e w4 ⟨rfl, hb4⟩)
              | fail)
            obtain ⟨w5, hw5⟩ : ∃ z, z = w4.alloc (.cells #[.int .u32 (lt : Int), .int .u32 (le : Int), .int .u32 (lg : Int), .int .u8 (la : Int)] 48) := ⟨_, rfl⟩
            rw [← hw5]
            have hb5 : Below w4.heap.size w4 w5 := by rw [hw5]; exact (Below.refl _ _).alloc (Nat.le_refl _) _
            have hg5 : w5.heap[w4.heap.size]? = some (.cells #[.int .u32 (lt : Int), .int .u32 (le : Int), .int .u32 (lg : Int), .int .u8 (la : Int)] 48 (0, 0)) := by rw [hw5]; exact heap_alloc_new _ _
            have hb45 := hb4.trans (hb5.mono hb4.size)
            have hl5 := (hb45.block g11 (Array.getElem?_eq_some_iff.1 HLV.out).1).trans HLV.out
            have HB5 := hid (HBW.out.trans (hb45.mono HBW.out.size))
            obtain ⟨⟨p0, p1, p2, p3⟩, -, -, -, -⟩ := zero4 hg5
            obtain ⟨⟨o0, o1, o2, o3⟩, -, -, -, -⟩ := zero4 hl5
            clear hw5 hb5 hg5 hb4 hb45 hl5
            go_wp2_with fail
            go_ret
            exact ⟨rfl, HB5.out⟩
    · have hjl : ¬ (j : Int) < (len0 : Int) := by omega
      have HLD := hid (load_any wa.heap.size b bn bd wv s wr HS.out)
      by_cases hz : len0 = 0
      · as_aux_lemma =>
          have hzb : ((len0 : Int) == 0) = true := by simp [hz]
          clear hz
          obtain ⟨q, hq⟩ : ∃ q, q = s.loadb := ⟨_, rfl⟩
          rw [← hq] at HLD
          clear hq
          obtain ⟨rt, er⟩ := q
          unfold Rt.val at HLD
          dsimp only at HLD
          go_wp2_with (first
            | (go_at_call 19; refine (HLD.out).mono ?_; rintro e w4 ⟨rfl, hb4⟩)
            | fail)
          go_ret
          exact ⟨rfl, (HBW.out.trans (hb4.mono HBW.out.size)).alloc (HBW.out.trans (hb4.mono HBW.out.size)).size _⟩
      · as_aux_lemma =>
          have hzb : ((len0 : Int) == 0) = false := by simp; omega
          have hlo := HI.out.load (by omega)
          rw [hlo] at HLD
          clear hlo hz
          obtain ⟨lt, hlt2⟩ : ∃ k, k = last.turn.toNat := ⟨_, rfl⟩
          obtain ⟨le, hle2⟩ : ∃ k, k = last.epoch.toNat := ⟨_, rfl⟩
          obtain ⟨lg, hlg2⟩ : ∃ k, k = last.gen.toNat := ⟨_, rfl⟩
          obtain ⟨la, hla2⟩ : ∃ k, k = last.area.toNat := ⟨_, rfl⟩
          have hlv := HL.out
          unfold rcelR at hlv
          unfold Rt.val at HLD
          dsimp only at HLD
          rw [← hlt2, ← hle2, ← hlg2, ← hla2] at hlv HLD
          have HLV := hid hlv
          clear hlt2 hle2 hlg2 hla2 hlv
          go_upto_region 28 with (first
            | (go_at_call 19; refine (HLD.out).mono ?_; rintro e w4 ⟨rfl, hb4⟩)
            | fail)
          obtain ⟨w5, hw5⟩ : ∃ z, z = w4.alloc (.cells #[.int .u32 (lt : Int), .int .u32 (le : Int), .int .u32 (lg : Int), .int .u8 (la : Int)] 48) := ⟨_, rfl⟩
          rw [← hw5]
          have hb5 : Below w4.heap.size w4 w5 := by rw [hw5]; exact (Below.refl _ _).alloc (Nat.le_refl _) _
          have hg5 : w5.heap[w4.heap.size]? = some (.cells #[.int .u32 (lt : Int), .int .u32 (le : Int), .int .u32 (lg : Int), .int .u8 (la : Int)] 48 (0, 0)) := by rw [hw5]; exact heap_alloc_new _ _
          have hb45 := hb4.trans (hb5.mono hb4.size)
          have hl5 := (hb45.block g11 (Array.getElem?_eq_some_iff.1 HLV.out).1).trans HLV.out
          have HB5 := hid (HBW.out.trans (hb45.mono HBW.out.size))
          obtain ⟨⟨p0, p1, p2, p3⟩, -, -, -, -⟩ := zero4 hg5
          obtain ⟨⟨o0, o1, o2, o3⟩, -, -, -, -⟩ := zero4 hl5
          clear hw5 hb5 hg5 hb4 hb45 hl5
          go_wp2_with fail
          go_ret
          exact ⟨rfl, HB5.out⟩

/-! ### THE ROW's STEP -/
set_option maxRecDepth 100000 in
theorem lifted (os : Os) (started : os.Started) (H : Type) (enc : TypeId × Value → H) :
    ReturnsInHanded {} Try.checked os 5 .any (Rows.blockRootsSpec.pre6 enc Try.prog Try.f5 Rows.blockRootsRow.domain false) (Rows.blockRootsSpec.post enc Try.prog Try.f5 false true false false) := by
  refine returnsInHanded_of_change (C := Try.checked) own started (by kernel_rfl) Try.func5
    (ChangeSpec.witness6 (enc := enc) (C := Try.checked) false ⟨#[], #[.slice none 0 0, .int .u8 0, .slice none 0 0, .int .i64 0], []⟩ 8 (by kernel_rfl) (by kernel_rfl) (by kernel_rfl) (by kernel_rfl)) ?_
  intro W base args ds gs before hval0 hW hcnd _
  have hval : ∀ (j : Nat) t v, Try.f5.params[j]? = some t → args[j]? = some v → Value.okWide Try.prog W .any base t v := hval0
  have hW' := hW
  obtain ⟨p, q, hA0, hV, rfl, hfz, hnd⟩ := hW
  have hA : DataW.TrodAll enc Try.prog W 0 (fun _ => true) true Try.f5.params.toList args.toList ds p := hA0
  rw [Try.params5] at hA hval
  obtain ⟨v0, vs0, d0, ds0, p0, q0, hargs, rfl, rfl, h0, r0⟩ := trodAll_cons hA
  obtain ⟨v1, vs1, d1, ds1, p1, q1, rfl, rfl, rfl, h1, r1⟩ := trodAll_cons r0
  obtain ⟨v2, vs2, d2, ds2, p2, q2, rfl, rfl, rfl, h2, r2⟩ := trodAll_cons r1
  obtain ⟨v3, vs3, d3, ds3, p3, q3, rfl, rfl, rfl, h3, r3⟩ := trodAll_cons r2
  obtain ⟨rfl, rfl, rfl⟩ := trodAll_nil r3
  obtain rfl : args = #[v0, v1, v2, v3] := by cases args; simp_all
  obtain ⟨rfl, rfl⟩ := trodVars_none hV
  have k0 := h0
  have lt0 : ∀ x ∈ p0, x.block < W.heap.size := by obtain ⟨m, hm⟩ := k0; exact DataW.trod_lt m _ _ _ hm
  have k1 := h1
  have lt1 : ∀ x ∈ p1, x.block < W.heap.size := by obtain ⟨m, hm⟩ := k1; exact DataW.trod_lt m _ _ _ hm
  have k2 := h2
  have lt2 : ∀ x ∈ p2, x.block < W.heap.size := by obtain ⟨m, hm⟩ := k2; exact DataW.trod_lt m _ _ _ hm
  have k3 := h3
  have lt3 : ∀ x ∈ p3, x.block < W.heap.size := by obtain ⟨m, hm⟩ := k3; exact DataW.trod_lt m _ _ _ hm
  obtain ⟨a0, len0, cap0, rfl⟩ := okWide_slice Try.underlying66 (hval 0 66 v0 rfl rfl)
  have w0 : IsRoots6 W a0 len0 cap0 := isRoots6_of h0
  obtain ⟨a1, rfl, rfl, rfl, w1⟩ := open_int Try.underlying5 (hval 1 5 v1 rfl rfl) h1
  obtain ⟨a2, len2, cap2, rfl⟩ := okWide_slice Try.underlying32 (hval 2 32 v2 rfl rfl)
  obtain ⟨z2, w2⟩ : ∃ zs, IsRow .u8 W a2 len2 cap2 zs := by
    obtain ⟨fuel, hf⟩ := h2
    rcases open_ints Try.underlying32 Try.underlying5 (by kernel_rfl) hf with ⟨hcs, _⟩ | ⟨x, l, c, zs, hcs, _, hl, hm, hz, _, hcell, hwz⟩
    · simp [Value.cells] at hcs
      obtain ⟨rfl, rfl, rfl⟩ := hcs
      exact ⟨[], .inl ⟨rfl, rfl, rfl, rfl⟩⟩
    · simp [Value.cells] at hcs
      obtain ⟨rfl, rfl, rfl⟩ := hcs
      exact ⟨zs, .inr ⟨_, rfl, hl, hm, by simpa using hz, hcell, hwz⟩⟩
  obtain ⟨a3, rfl, rfl, rfl, w3⟩ := open_int Try.underlying3 (hval 3 3 v3 rfl rfl) h3
  clear hA0 hval0
  refine (walk a0 len0 cap0 a1 a2 len2 cap2 z2 a3 W w0 w1 w2 w3).mono fun e W' ⟨he, bel⟩ => ?_
  subst he
  exact ⟨_, rfl, _, _, _, [], _, [], hW', trodAll_mk1 (shut_bool Try.underlying4 _), (trodAll_cons_mk (Below.trod laidOut (by kernel_rfl) (of_decide_eq_true (by kernel_rfl)) k0 bel lt0) (trodAll_cons_mk (Below.trod laidOut (by kernel_rfl) (of_decide_eq_true (by kernel_rfl)) k1 bel lt1) (trodAll_cons_mk (Below.trod laidOut (by kernel_rfl) (of_decide_eq_true (by kernel_rfl)) k2 bel lt2) (trodAll_cons_mk (Below.trod laidOut (by kernel_rfl) (of_decide_eq_true (by kernel_rfl)) k3 bel lt3) trodAll_mk0)))), rfl, bel.frame _, fun h => by cases h⟩

theorem over : Rows.blockRootsRow.holds Try.pinned (OpenSpec.ofChange Rows.blockRootsSpec) :=
  OpenClaim.holds_of_wide 5 Try.f5 rfl rfl rfl rfl rfl rfl rfl ⟨rfl, rfl, rfl, rfl, rfl⟩ rfl rfl rfl rfl rfl (by kernel_rfl) Try.func5 (by kernel_rfl)
    (of_decide_eq_true (by kernel_rfl)) (by unfold Func.isWrapper; first | (rw [if_pos (by decide +kernel)]; kernel_rfl) | (rw [if_neg (by decide +kernel)]; exact ⟨rfl, rfl⟩))
    (fun os started H enc _ => lifted os started H enc)

/-- THE STATEMENT -/
theorem blockRoots_holds : Rows.BlockRootsSaid := over
#print axioms blockRoots_holds
end Go.Proofs.Ytbagpckiegpalaa.blockRoots
