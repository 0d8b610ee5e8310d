/-
  A block of which bits were turned that stand within 32 that follow one another is none any more: quadrillelaw06.BlockTurned returns true for every input, without any condition.
  (The frame behind the walk is the guide's shell, at these parameters.)
-/
import Derived.Test.YtodploolcbjlkaaRows
import Derived.WalkKit
import Derived.Test.YtodploolcbjlkaaBlkU
import Derived.ProofKit
import Derived.Deep.Cut
import Derived.Deep.CutRange
import Derived.Deep.CutBlock
import Derived.Deep.Grids
import Derived.OpenShut
import Derived.ShutString
import Derived.ChangeOld
import Derived.Below
namespace Go.Proofs.Ytodploolcbjlkaa.blockTurned
open Go.ChangeShapes Go.WideShapes Go.ChangeAt Go.RowKit
open Go.ChangeMaps (open_string shut_string)
set_option linter.unusedVariables false

theorem own : ownKnob Try.prog.godebug = none := by kernel_rfl
theorem laidOut : laidOutB Try.prog = true := by kernel_rfl

theorem odd_or (q : Nat) (hq : q < 4294967296) : ∃ pat : BitVec 32, pat.getLsbD 0 = true ∧ Go.bits .or .u32 (q : Int) 1 = (pat.toNat : Int) := by
  refine ⟨BitVec.ofNat 32 q ||| 1#32, by simp, ?_⟩
  rw [show ((1 : Int)) = ((1 : Nat) : Int) from rfl, u32_or_nat q 1 hq (by omega), BitVec.toNat_or]
  simp [Nat.mod_eq_of_lt hq]

set_option maxRecDepth 100000 in
set_option maxHeartbeats 4000000 in
theorem walk (v0 : Value) (a1 : Int) (a2 : Int) (w : World) (w0 : IsBlock6 w v0) (w1 : (Lit.int .u16 a1).wf = true) (w2 : (Lit.int .u32 a2).wf = true) :
    Calls Try.prog 8 #[v0, .int .u16 a1, .int .u32 a2] w fun e w' => e = .returned (.bool true) ∧ Below w.heap.size w w' := by
  obtain ⟨n0, n1, n2, n3, A, L, C, zs, rfl, hn, hrow⟩ := w0
  obtain ⟨q1, rfl⟩ := Int.eq_ofNat_of_zero_le (show 0 ≤ a1 by have := bounds_u16 w1; omega)
  obtain ⟨q2, rfl⟩ := Int.eq_ofNat_of_zero_le (show 0 ≤ a2 by have := bounds_u32 w2; omega)
  have hq1 : q1 < 65536 := by have := bounds_u16 w1; omega
  have hq2 : q2 < 4294967296 := by have := bounds_u32 w2; omega
  obtain ⟨hbl1, hbl2, hbl3⟩ := hrow.bounds
  obtain ⟨K, hK⟩ : ∃ K, K = min L 104 := ⟨_, rfl⟩
  have hKL : K ≤ L := by omega
  have hK4 : K ≤ 104 := by omega
  have hKC : (K : Int) ≤ (C : Int) := by omega
  have HMIN := hid (show (if 104 < (L : Int) then (104 : Int) else (L : Int)) = (K : Int) by split <;> omega)
  obtain ⟨B, hBl, hBr, k0, k1, k2, k3⟩ := IsBlock6.blk hn hrow K hKL
  have HBR := hid hBr
  have HBL := hid hBl
  have K0 := hid k0
  have K1 := hid k1
  have K2 := hid k2
  have K3 := hid k3
  clear hrow hBl hBr k0 k1 k2 k3 hK w1 w2
  go_enter Try.func8, Try.ntmps8
  go_wp2_with fail
  obtain ⟨wb, hwb⟩ : ∃ z, z = w.alloc (.cells #[.int .u8 (n0 : Int), .int .u32 (n1 : Int), .int .u32 (n2 : Int), .int .u32 (n3 : Int), .slice A L C] 34) := ⟨_, rfl⟩
  rw [← hwb]
  have hgb : wb.heap[w.heap.size]? = some (.cells #[.int .u8 (n0 : Int), .int .u32 (n1 : Int), .int .u32 (n2 : Int), .int .u32 (n3 : Int), .slice A L C] 34 (0, 0)) := by rw [hwb]; exact heap_alloc_new _ _
  have hb0 : Below w.heap.size w wb := by rw [hwb]; exact (Below.refl _ _).alloc (Nat.le_refl _) _
  clear hwb
  refine (awake6_any _).mono ?_
  rintro e w1 ⟨rfl, hb1⟩
  have hg1 := (hb1.block _ (Array.getElem?_eq_some_iff.1 hgb).1).trans hgb
  have HB1 := hid (hb0.trans (hb1.mono hb0.size))
  have HG1 := hid hg1
  clear hgb hb0 hb1 hg1
  obtain ⟨⟨m0, m1, m2, m3, m4⟩, -, -, -, -, z4⟩ := zero5 HG1.out
  go_upto_region 4 with fail
  simp only [HMIN.out, Int.toNat_natCast]
  obtain ⟨w2, hw2⟩ : ∃ z, z = w1.setCell ⟨w.heap.size, 4, none⟩ (.slice A K C) := ⟨_, rfl⟩
  rw [← hw2]
  have HG2 := hid (show w2.heap[w.heap.size]? = some (.cells #[.int .u8 (n0 : Int), .int .u32 (n1 : Int), .int .u32 (n2 : Int), .int .u32 (n3 : Int), .slice A K C] 34 (0, 0)) by rw [hw2]; exact (setCell_heapS _ _ _ _ _ _ _ HG1.out).trans (by simp))
  have HB2 := hid (show Below w.heap.size w w2 by rw [hw2]; exact HB1.out.setCell (p := ⟨w.heap.size, 4, none⟩) (Nat.le_refl _) _)
  clear hw2 m0 m1 m2 m3 m4 z4
  obtain ⟨⟨m0, m1, m2, m3, m4⟩, -, -, -, -, -⟩ := zero5 HG2.out
  by_cases hk : n0 = 0
  · have hkb : ((n0 : Int) == 0) = true := by simp [hk]
    clear hk
    go_wp2_with fail
    go_ret
    exact ⟨rfl, HB2.out⟩
  · have hkb : ((n0 : Int) == 0) = false := by simp [hk]
    have HK := hid hk
    clear hk
    go_wp2_with fail
    refine (new_yes 1 w2 (by omega) (by omega)).mono ?_
    rintro e w3 ⟨b, bn, bd, rfl, h3, hb3⟩
    have H3 := hid h3
    have HG3 := hid ((hb3.block _ (Array.getElem?_eq_some_iff.1 HG2.out).1).trans HG2.out)
    have HB3 := hid (HB2.out.trans (hb3.mono HB2.out.size))
    clear h3 hb3 m0 m1 m2 m3 m4
    obtain ⟨⟨m0, m1, m2, m3, m4⟩, -, -, -, -, -⟩ := zero5 HG3.out
    have hkd : B.kind ≠ 0 := fun e => HK.out (by rw [K0.out, e]; rfl)
    have hlen : B.bytes.length = 128 := B.bytes_length (by rw [HBL.out]; omega)
    obtain ⟨e1, o1, r1⟩ := one_new.write B.bytes hlen
    have hpe : (Sl.new 1).putb 0 B = (Sl.new 1).write 0 B.bytes := by
      unfold Sl.putb
      rw [if_neg (by simp [Sl.has, Sl.new]), if_neg (by rw [HBL.out]; omega), if_neg hkd]
    obtain ⟨s1, hs1⟩ : ∃ s, s = ((Sl.new 1).write 0 B.bytes).1 := ⟨_, rfl⟩
    rw [← hs1] at o1 r1
    have HPUT := hid (show Calls Try.prog 12 #[.pointer (some ⟨b, 0, none⟩), .int .i64 0, .agg #[.int .u8 (n0 : Int), .int .u32 (n1 : Int), .int .u32 (n2 : Int), .int .u32 (n3 : Int), .slice A K C]] w3 (fun e w' => ∃ v', e = .returned (.int .i64 0) ∧ SlabAt w' w2.heap.size b bn bd v' s1 ∧ Keeps (SlabS b bn bd (.slice none 0 0)) w3 w') by
      have h := put_all w2.heap.size b bn bd _ (Sl.new 1) 0 B (.slice A K C) w3 H3.out (by decide) (by decide) (HBR.out.below HB3.out)
      rw [hpe, e1, ← hs1] at h
      rw [K0.out, K1.out, K2.out, K3.out]
      exact h)
    have O1 := hid o1
    have R1 := hid r1
    have HLB := hid hlen
    clear hkd hlen e1 o1 r1 hpe hs1
    go_upto_region 9 with (first
      | (go_at_call 12; refine (HPUT.out).mono ?_; rintro e w4 ⟨v4, rfl, h4, hk4⟩)
      | fail)
    have HB4 := hid (HB3.out.trans ((H3.out.keep hk4).mono HB2.out.size))
    have H4 := hid h4
    have HRD := hid (read_all w2.heap.size b bn bd v4 s1 0 w4 h4)
    rw [R1.out] at HRD
    clear h4 hk4 m0 m1 m2 m3 m4
    go_upto_region 10 with (first
      | (go_at_call 31; refine (HRD.out).mono ?_; rintro e w5 ⟨rv, rfl, ha⟩)
      | fail)
    rcases ha with ⟨h0, _⟩ | ⟨-, hal, g, rfl, hg5, hge, hb5⟩
    · exact absurd rfl h0
    obtain ⟨pat, hp0, hpe⟩ := odd_or q2 hq2
    have HP0 := hid hp0
    have HPE := hid hpe
    obtain ⟨m, hm⟩ : ∃ m, m = q1 % 1024 := ⟨_, rfl⟩
    have hm4 : m < 1024 := by omega
    have hme : (q1 : Int) % 1024 = (m : Int) := by omega
    have HM := hid hm
    have HG5 := hid hg5
    have HB5 := hid hb5
    have HGE := hid hge
    clear hp0 hpe hm hg5 hb5 hge hal
    go_wp2_with fail
    go_loopw [41] (fun i wr => ∃ (n : Nat) (l : List UInt8), n ≤ 32 ∧ i = .int .i64 n ∧ Turned B.bytes l pat m n ∧ wr.heap[g]? = some (.cells (l.map bv).toArray 98 (0, 0)) ∧ Keeps (fun k => k = g) w5 wr) (fun i _ => 32 - (intOf i).toNat)
    case atStart => exact ⟨0, B.bytes, by omega, rfl, Turned.zero _ _ _, HG5.out, Keeps.refl _ _⟩
    case round =>
      obtain ⟨n, l, hn32, rfl, hT, hgl, hkp⟩ := hrel
      have HT := hid hT
      have HGL := hid hgl
      have HKP := hid hkp
      clear hT hgl hkp
      by_cases hlt : n < 32
      · have HBIT := hid (show Go.bits .and .u32 (Go.bits .or .u32 (q2 : Int) 1 / 2 ^ n) 1 = 1 ↔ pat.getLsbD n = true by
          rw [HPE.out]
          have e : ((pat.toNat : Int) / 2 ^ n) = ((pat >>> n).toNat : Int) := by
            rw [BitVec.toNat_ushiftRight, Nat.shiftRight_eq_div_pow]
            simp
          have hlt32 : (pat >>> n).toNat < 4294967296 := (pat >>> n).isLt
          rw [e, show ((1 : Int)) = ((1 : Nat) : Int) from rfl, u32_and_nat _ 1 hlt32 (by omega), Nat.and_one_is_mod, shr_odd pat n _ rfl]
          simp only [decide_eq_true_eq]
          omega)
        go_upto_region 15 with fail
        · rename_i hb2 hb1
          have hlen : l.length = 128 := HT.out.1.trans HLB.out
          obtain ⟨kk, hkk⟩ : ∃ k, k = m + n := ⟨_, rfl⟩
          have hki : (m : Int) + (n : Int) = (kk : Int) := by omega
          rw [hki]
          have HKK := hid hkk
          obtain ⟨d8, hd8⟩ : ∃ d, d = kk / 8 := ⟨_, rfl⟩
          obtain ⟨r8, hr8⟩ : ∃ d, d = kk % 8 := ⟨_, rfl⟩
          have HD8 := hid hd8
          have HR8 := hid hr8
          have t1 : (kk : Int).tdiv 8 = (d8 : Int) := by rw [Int.tdiv_eq_ediv_of_nonneg (by omega)]; omega
          have t2 : (kk : Int).tmod 8 = (r8 : Int) := by rw [Int.tmod_eq_emod_of_nonneg (by omega)]; omega
          have t3 : (kk : Int) / 8 = (d8 : Int) := by omega
          have t4 : (kk : Int) % 8 = (r8 : Int) := by omega
          have t5 : IntKind.i64.wrap (d8 : Int) = (d8 : Int) := by rw [IntKind.wrap_i64]; omega
          have t6 : IntKind.i64.wrap (r8 : Int) = (r8 : Int) := by rw [IntKind.wrap_i64]; omega
          have t7 : (d8 : Int) < 128 := by omega
          have t8 : d8 < 128 := by omega
          obtain ⟨x, hx⟩ : ∃ x, x = l.getD d8 0 := ⟨_, rfl⟩
          have hcell : wr.cell? ⟨g, d8, none⟩ = some (.int .u8 (x.toNat : Int)) := by
            rw [cell_of_row _ _ _ _ _ _ HGL.out, hx]
            simp [List.getElem?_eq_getElem (show d8 < l.length by omega), bv]
          have hfz : wr.frozen? ⟨g, d8, none⟩ = false := frozen_of_row _ _ _ _ _ HGL.out
          have HX := hid hx
          have HLN := hid hlen
          clear hx hlen hki hkk hd8 hr8
          go_still_tail 10, (by kernel_rfl)
          change wpList _ _ _ _ _ wr.drew
          go_wp2
          refine ⟨⟨n + 1, l.set d8 (flip x r8), by omega, by go_num, ?_, ?_, HKP.out.drew.setCell (p := ⟨g, d8, none⟩) (fun _ => rfl) _⟩, by simp [intOf]; omega⟩
          · rw [HX.out, HD8.out, HR8.out, HKK.out]
            exact HT.out.step (HBIT.out.1 hb2) (by rw [HLB.out]; omega)
          · have hr8' : r8 < 8 := by have := HR8.out; omega
            refine (setCell_heapS wr.drew _ _ _ _ _ _ HGL.out).trans ?_
            rw [flip_val x r8 hr8']
            simp [bv, List.map_set]
        · rename_i hb2 hb1
          exact ⟨⟨n + 1, l, by omega, by go_num, HT.out.skip (fun h => by have := h.2; rw [HLB.out] at this; omega), HGL.out, HKP.out⟩, by simp [intOf]; omega⟩
        · rename_i hb1
          exact ⟨⟨n + 1, l, by omega, by go_num, HT.out.skip (fun h => hb1 (HBIT.out.2 h.1)), HGL.out, HKP.out⟩, by simp [intOf]; omega⟩
      · obtain rfl : n = 32 := by omega
        have hlen : l.length = 128 := HT.out.1.trans HLB.out
        have hbits : ∀ k, k < 8 * 128 → Crc.bitAt l k = (Crc.bitAt B.bytes k ^^ Crc.burst pat m k) := fun k hk => by
          rw [HT.out.2 k (by rw [HLB.out]; exact hk)]
          congr 1
          unfold Crc.burst
          by_cases h : k < m + 32
          · simp [h]
          · rw [BitVec.getLsbD_of_ge pat (k - m) (by omega)]; simp
        have hne := said_turned B (by rw [HBL.out]; omega) l hlen m pat HP0.out hm4 hbits
        obtain ⟨e2, o2, r2⟩ := O1.out.write l hlen
        have hbr : Below w4.heap.size w4 wr := HB5.out.trans (HKP.out.below HB5.out.size (fun i e => by rw [e]; exact HGE.out))
        have hwr := write_all w2.heap.size b bn bd v4 s1 0 (.slice (some ⟨g, 0, none⟩) 128 128) l wr (H4.out.below hbr) (by rw [O1.out.steps]; omega) (by rw [O1.out.way]; omega) (rd_row hlen.symm HGL.out (by rw [hlen]; unfold maxLen; omega))
        rw [e2] at hwr
        obtain ⟨s2, hs2⟩ : ∃ s, s = (s1.write 0 l).1 := ⟨_, rfl⟩
        rw [← hs2] at hwr o2 r2
        have HWR := hid hwr
        have hgb : s2.getb 0 = said l := by unfold Sl.getb; rw [r2]; exact if_pos rfl
        obtain ⟨er, her⟩ : ∃ er, er = (said l).1 := ⟨_, rfl⟩
        have hnb : (er != 0) = true := by rw [her]; simpa using hne
        have HER := hid her
        have HGB := hid hgb
        have HBR2 := hid (HB4.out.trans (hbr.mono HB4.out.size))
        have HSA := hid (H4.out.below hbr)
        clear hbits hne e2 o2 r2 hwr hs2 hgb her hbr
        go_upto_region 18 with (first
          | (go_at_call 23; refine (HWR.out).mono ?_; rintro e w6 ⟨v6, rfl, h6, hk6⟩)
          | fail)
        have HB6 := hid (HBR2.out.trans ((HSA.out.keep hk6).mono HB2.out.size))
        have HGT := hid (get_any w2.heap.size b bn bd v6 s2 0 w6 h6)
        rw [HGB.out] at HGT
        rw [← HER.out] at HGT
        clear h6 hk6
        go_wp2_with (first
          | (go_at_call 14; refine (HGT.out).mono ?_; rintro e w7 ⟨dv, rfl, ho, hb7⟩
             obtain ⟨ua, uc, hdv⟩ := rd_slice ho.rd
             subst hdv
             have HB7 := hid (HB6.out.trans (hb7.mono HB6.out.size))
             clear ho hb7
             unfold Blk.val)
          | fail)
        go_ret
        refine ⟨by rw [← hnb]; rfl, ?_⟩
        exact HB7.out.alloc HB7.out.size _

/-! ### THE ROW's STEP -/
set_option maxRecDepth 100000 in
theorem lifted (os : Os) (started : os.Started) (H : Type) (enc : TypeId × Value → H) :
    ReturnsInHanded {} Try.checked os 8 .any (Rows.blockTurnedSpec.pre6 enc Try.prog Try.f8 Rows.blockTurnedRow.domain false) (Rows.blockTurnedSpec.post enc Try.prog Try.f8 false true false false) := by
  refine returnsInHanded_of_change (C := Try.checked) own started (by kernel_rfl) Try.func8
    (ChangeSpec.witness6 (enc := enc) (C := Try.checked) false ⟨#[], #[.agg #[.int .u8 0, .int .u32 0, .int .u32 0, .int .u32 0, .slice none 0 0], .int .u16 0, .int .u32 0], []⟩ 8 (by kernel_rfl) (by kernel_rfl) (by kernel_rfl) (by kernel_rfl)) ?_
  intro W base args ds gs before hval0 hW hcnd _
  have hval : ∀ (j : Nat) t v, Try.f8.params[j]? = some t → args[j]? = some v → Value.okWide Try.prog W .any base t v := hval0
  have hW' := hW
  obtain ⟨p, q, hA0, hV, rfl, hfz, hnd⟩ := hW
  have hA : DataW.TrodAll enc Try.prog W 0 (fun _ => true) true Try.f8.params.toList args.toList ds p := hA0
  rw [Try.params8] at hA hval
  obtain ⟨v0, vs0, d0, ds0, p0, q0, hargs, rfl, rfl, h0, r0⟩ := trodAll_cons hA
  obtain ⟨v1, vs1, d1, ds1, p1, q1, rfl, rfl, rfl, h1, r1⟩ := trodAll_cons r0
  obtain ⟨v2, vs2, d2, ds2, p2, q2, rfl, rfl, rfl, h2, r2⟩ := trodAll_cons r1
  obtain ⟨rfl, rfl, rfl⟩ := trodAll_nil r2
  obtain rfl : args = #[v0, v1, v2] := by cases args; simp_all
  obtain ⟨rfl, rfl⟩ := trodVars_none hV
  have k0 := h0
  have lt0 : ∀ x ∈ p0, x.block < W.heap.size := by obtain ⟨m, hm⟩ := k0; exact DataW.trod_lt m _ _ _ hm
  have k1 := h1
  have lt1 : ∀ x ∈ p1, x.block < W.heap.size := by obtain ⟨m, hm⟩ := k1; exact DataW.trod_lt m _ _ _ hm
  have k2 := h2
  have lt2 : ∀ x ∈ p2, x.block < W.heap.size := by obtain ⟨m, hm⟩ := k2; exact DataW.trod_lt m _ _ _ hm
  have w0 : IsBlock6 W v0 := isBlock6_of (hval 0 34 v0 rfl rfl) h0
  obtain ⟨a1, rfl, rfl, rfl, w1⟩ := open_int Try.underlying81 (hval 1 81 v1 rfl rfl) h1
  obtain ⟨a2, rfl, rfl, rfl, w2⟩ := open_int Try.underlying31 (hval 2 31 v2 rfl rfl) h2
  clear hA0 hval0
  refine (walk v0 a1 a2 W w0 w1 w2).mono fun e W' ⟨he, bel⟩ => ?_
  subst he
  exact ⟨_, rfl, _, _, _, [], _, [], hW', trodAll_mk1 (shut_bool Try.underlying4 _), (trodAll_cons_mk (Below.trod laidOut (by kernel_rfl) (of_decide_eq_true (by kernel_rfl)) k0 bel lt0) (trodAll_cons_mk (Below.trod laidOut (by kernel_rfl) (of_decide_eq_true (by kernel_rfl)) k1 bel lt1) (trodAll_cons_mk (Below.trod laidOut (by kernel_rfl) (of_decide_eq_true (by kernel_rfl)) k2 bel lt2) trodAll_mk0))), rfl, bel.frame _, fun h => by cases h⟩

theorem over : Rows.blockTurnedRow.holds Try.pinned (OpenSpec.ofChange Rows.blockTurnedSpec) :=
  OpenClaim.holds_of_wide 8 Try.f8 rfl rfl rfl rfl rfl rfl rfl ⟨rfl, rfl, rfl, rfl, rfl⟩ rfl rfl rfl rfl rfl (by kernel_rfl) Try.func8 (by kernel_rfl)
    (of_decide_eq_true (by kernel_rfl)) (by unfold Func.isWrapper; first | (rw [if_pos (by decide +kernel)]; kernel_rfl) | (rw [if_neg (by decide +kernel)]; exact ⟨rfl, rfl⟩))
    (fun os started H enc _ => lifted os started H enc)

/-- THE STATEMENT -/
theorem blockTurned_holds : Rows.BlockTurnedSaid := over
#print axioms blockTurned_holds
end Go.Proofs.Ytodploolcbjlkaa.blockTurned
