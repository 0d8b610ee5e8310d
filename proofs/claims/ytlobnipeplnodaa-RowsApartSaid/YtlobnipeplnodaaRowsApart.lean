/-
  NO CELL IS TWO JOBS': whatever is placed and removed, each job has just as many nodes as it asked for, in one row, and none is another one's there; with those that fill it a row has each node once
  (The frame behind the walk is the guide's shell, at these parameters.)
-/
import Derived.Test.YtlobnipeplnodaaRows
import Derived.WalkKit
import Derived.Test.YtlobnipeplnodaaRowA
import Derived.ProofKit
import Derived.Deep.Cut
import Derived.Deep.CutRange
import Derived.Deep.CutBlock
import Derived.Deep.Grids
import Derived.OpenShut
import Derived.ShutString
import Derived.ChangeOld
import Derived.Below
namespace Go.Proofs.Ytlobnipeplnodaa.rowsApart
open Go.ChangeShapes Go.WideShapes Go.ChangeAt Go.RowKit
open Go.ChangeMaps (open_string shut_string)
set_option linter.unusedVariables false

theorem own : ownKnob Try.prog.godebug = none := by kernel_rfl
theorem laidOut : laidOutB Try.prog = true := by kernel_rfl

theorem zeroB (w : World) : (zeroValue 4).run Try.prog w = .ok (.bool false) w := by kernel_rfl
theorem wf16 {x : Nat} (h : x < 16) : (Lit.int .i64 (x : Int)).wf = true := wf_row (by omega)

set_option maxRecDepth 100000 in
set_option maxHeartbeats 4000000 in
theorem walk (a0 : Int) (a1 : Int) (a2 : Option Addr) (len2 cap2 : Nat) (z2 : List Int) (a3 : Option Addr) (len3 cap3 : Nat) (z3 : List Int) (w : World) (w0 : (Lit.int .u8 a0).wf = true) (w1 : (Lit.int .u8 a1).wf = true) (w2 : IsRow .u8 w a2 len2 cap2 z2) (w3 : IsRow .u8 w a3 len3 cap3 z3) :
    Calls Try.prog 4 #[.int .u8 a0, .int .u8 a1, .slice a2 len2 cap2, .slice a3 len3 cap3] w fun e w' => e = .returned (.bool true) ∧ Below w.heap.size w w' := by
  obtain ⟨ws, hwl, hwr, hw8⟩ := w2.rdn
  obtain ⟨gs, hgl, hgr, hg8⟩ := w3.rdn
  have bd0 := bounds_u8 w0
  have bd1 := bounds_u8 w1
  obtain ⟨r0, rfl⟩ := Int.eq_ofNat_of_zero_le (show 0 ≤ a0 by omega)
  obtain ⟨n0, rfl⟩ := Int.eq_ofNat_of_zero_le (show 0 ≤ a1 by omega)
  have HWR := hid hwr
  have HGR := hid hgr
  have HW8 := hid hw8
  have HG8 := hid hg8
  have HR0 := hid (show r0 < 256 by omega)
  have HN0 := hid (show n0 < 256 by omega)
  clear w0 w1 w2 w3 hwr hw8 hgl hgr hg8 bd0 bd1
  subst hwl
  obtain ⟨ag, cg, hce, hcl, hcm⟩ := HWR.out.len
  rw [List.length_map] at hce hcl
  have hwsl : ws.length ≤ 9223372036854775807 := by omega
  clear hce hcl hcm
  go_enter Try.func4, Try.ntmps4
  go_wp2_with fail
  refine (awake12_any w).mono ?_
  rintro e wa ⟨rfl, hba⟩
  have HBA := hid hba
  have hsa := hba.size
  clear hba
  go_wp2_with fail
  refine (build_any wa r0 n0 HR0.out HN0.out (.slice a2 ws.length cap2) (.slice a3 len3 cap3) ws gs (HWR.out.all HBA.out) (HGR.out.all HBA.out) HW8.out HG8.out).mono ?_
  rintro e wb ⟨b, kk, rfl, hbb, m, hm, hbu, hmr, hmn, hBb, -⟩
  have HM := hid hm
  have HBU := hid hbu
  have HBB := hid hBb
  have hsb := hBb.size
  have hlt := hm.lt
  clear hm hbu hmr hmn hBb
  go_wp2_with fail
  refine (size_any wb b m HM.out).mono ?_
  rintro e wc ⟨rfl, nd, hwc⟩
  have hbc : Below wb.heap.size wb wc := by rw [hwc]; exact ⟨rfl, rfl, rfl, Nat.le_refl _, fun _ _ => rfl⟩
  have HMC := hid (HM.out.below hbc hlt)
  have HKP := hid (show Below w.heap.size w wc from HBA.out.trans ((HBB.out.mono (by omega)).trans (hbc.mono (by omega))))
  have n1 := HMC.out.n1
  have n16 := HMC.out.n16
  have r1 := HMC.out.r1
  have r8 := HMC.out.r8
  have HBG := hid (show w.heap.size ≤ b ∧ b < wc.heap.size from ⟨by omega, HMC.out.lt⟩)
  clear hbc hwc hlt hsa hsb hbb
  have hmm : ∀ w : World, (Instr.makeMap 59 none).run Try.prog w = .ok (.map (some w.heap.size)) (w.alloc (.map #[] 0)) := fun w => rfl
  go_wp2_with fail
  have hbW : Below wc.heap.size wc (wc.alloc (.map #[] 0)) := (Below.refl _ wc).alloc (Nat.le_refl _) _
  refine (jobs_any _ b m (HMC.out.below hbW HBG.out.2)).mono ?_
  rintro e w6 ⟨v6, rfl, hv6, hb6⟩
  have HJW := hid (jobs_where HBU.out)
  have HJN := hid (spots_nodup HBU.out)
  obtain ⟨J, hJ⟩ : ∃ J, J = m.jobs := ⟨_, rfl⟩
  rw [← hJ] at hv6 HJW HJN
  have hJl : J.length ≤ 128 := by
    have h1 := m.upTo_len m.r
    have h2 : m.r * m.n ≤ 8 * 16 := Nat.mul_le_mul r8 n16
    have h3 : m.jobs.length = (m.upTo m.r).length := rising_len _
    rw [hJ]; omega
  obtain ⟨a6, c6, rfl, hcl6, hcm6⟩ := owns_slice hv6
  have HAA := hid (show ApartAt w b wc.heap.size m (.slice a6 J.length c6) J [] w6 from by
    have hs := hb6.size
    have hv := hv6
    rw [World.size_alloc] at hs hb6 hv
    exact ⟨(HMC.out.below hbW HBG.out.2).below hb6 (by have := HBG.out; omega), ⟨_, (SetP.new _ _ wc).block (hb6.block _ (by omega)), fun r x => by simp⟩, hv, HKP.out.trans ((hbW.mono HKP.out.size).trans (hb6.mono (by have := HKP.out.size; omega))), ⟨HBG.out.1, HBG.out.2, by omega⟩⟩)
  clear hv6 hb6 hJ hcl6 hcm6 hmm hbW
  go_wp2_with fail
  go_loopw [49] (fun i wr => ∃ c : Nat, c ≤ J.length ∧ i = .int .i64 c ∧ ApartAt w b wc.heap.size m (.slice a6 J.length c6) J ((J.take c).flatMap m.spots) wr) (fun i _ => J.length - (intOf i).toNat)
  case atStart => exact ⟨0, Nat.zero_le _, rfl, HAA.out⟩
  case round =>
    obtain ⟨c, hc, rfl, hFA⟩ := hrel
    have HFW := hid hFA
    by_cases hcl : c < J.length
    · have hci : (c : Int) < (J.length : Int) := by omega
      obtain ⟨j, hj⟩ : ∃ j, J[c]? = some j := ⟨_, List.getElem?_eq_getElem hcl⟩
      obtain ⟨-, g, o, hga, hcell⟩ := (RdV.of_own hFA.ls).at c (uv j) (by rw [List.getElem?_map, hj]; rfl)
      subst hga
      have hcell' : wr.cell? ⟨g, o + c, none⟩ = some (.int .u32 (j : Nat)) := hcell
      obtain ⟨i, hi⟩ := HJW.out j (List.mem_of_getElem? hj)
      have HWI := hid hi
      have HTK := hid (take_snoc' J c j hj)
      have HNN := hid (Mx.spots_of hi)
      have HND := hid (show ((J.take c).flatMap m.spots ++ (m.own i j).map fun x => (i, x)).Nodup by
        have h := HJN.out
        rw [← List.take_append_drop (c + 1) J, List.flatMap_append, HTK.out, List.flatMap_append, List.flatMap_cons, List.flatMap_nil, List.append_nil, HNN.out] at h
        exact (List.nodup_append.1 h).1)
      obtain ⟨hj0, hir, hne, -⟩ := Mx.where_some hi
      have j32 : j < 4294967296 := by
        obtain ⟨x, hx⟩ := List.exists_mem_of_ne_nil _ hne
        rw [← (own_mem.1 hx).2]
        exact hFA.mx.c32 _
      obtain ⟨hj40, wd, hwd, hlen⟩ := HBU.out.wide j i hj0 hir hne
      obtain ⟨j1, hj1⟩ : ∃ j1, j1 = j - 1 := ⟨_, rfl⟩
      rw [← hj1] at hwd
      have ej : (j : Int) - 1 = (j1 : Int) := by omega
      have hj1l : j1 < ws.length := (List.getElem?_eq_some_iff.1 hwd).1
      have hj1i : (j1 : Int) < (ws.length : Int) := by omega
      have j1b : (j1 : Int) < 4294967296 := by omega
      obtain ⟨y, hy⟩ : ∃ y, y = wd % 6 := ⟨_, rfl⟩
      have hwd8 : (wd : Int) < 256 := by have := HW8.out wd (List.mem_of_getElem? hwd); omega
      have q1 : (wd : Int) % 6 = (y : Int) := by omega
      have q2 : (wd : Int).tmod 6 = (y : Int) := by rw [Int.tmod_eq_emod_of_nonneg (by omega)]; exact q1
      have q3 : (1 : Int) + (y : Int) = ((m.own i j).length : Int) := by omega
      have y6 : (y : Int) < 6 := by omega
      have HWD := hid hwd
      have hNL : (m.own i j).length ≤ 16 := Nat.le_trans (Mx.at_len _ _) n16
      have hPL : ((J.take c).flatMap m.spots).length ≤ 128 * 16 := by
        refine Nat.le_trans (flat_len m.spots 16 (J.take c) (fun b _ => ?_)) (Nat.mul_le_mul_right _ (Nat.le_trans (List.length_take_le' _ _) hJl))
        unfold Mx.spots
        split
        · exact Nat.zero_le _
        · rw [List.length_map]; exact Nat.le_trans (Mx.at_len _ _) n16
      have jb : (j : Int) < 4294967296 := by omega
      have HIR := hid hir
      clear hFA hcell hj hi hj0 hne j32 hlen hy hj1 hwd hj40 hir
      go_wp2_with fail
      refine (of_some wr b m j i HFW.out.mx HWI.out).mono ?_
      rintro e w7 ⟨v7, rfl, hv7, -, hb7⟩
      obtain ⟨a7, c7, rfl, hcl7, hcm7⟩ := owns_slice hv7
      have HV7 := hid (owns_base hv7 (show wc.heap.size + 1 ≤ wr.heap.size by have := HFW.out.or; omega))
      have HF7 := hid (HFW.out.below hb7)
      have hkw : Below w.heap.size w w7 := HFW.out.be.trans (hb7.mono HFW.out.be.size)
      obtain ⟨-, gw, ow, hgw, hcw⟩ := (HWR.out.all hkw).at j1 (bvn wd) (by rw [List.getElem?_map, HWD.out]; rfl)
      have hcw' : w7.cell? ⟨gw, ow + j1, none⟩ = some (.int .u8 (wd : Nat)) := hcw
      clear hv7 hb7 hkw hcw hcl7 hcm7
      subst hgw
      go_wp2_with fail
      clear hcw'
      go_loopw [77] (fun i' wr' => ∃ d : Nat, d ≤ (m.own i j).length ∧ i' = .int .i64 d ∧ ApartAt w b wc.heap.size m (.slice (some ⟨g, o, none⟩) J.length c6) J ((J.take c).flatMap m.spots ++ ((m.own i j).take d).map fun x => (i, x)) wr' ∧ wr'.ownsRow (wc.heap.size + 1) 3 1 (.slice a7 (m.own i j).length c7) (m.own i j).length ((m.own i j).map iv)) (fun i' _ => (m.own i j).length - (intOf i').toNat)
      case atStart => exact ⟨0, Nat.zero_le _, rfl, by rw [List.take_zero, List.map_nil, List.append_nil]; exact HF7.out, HV7.out⟩
      case round =>
        obtain ⟨d, hd, rfl, hF8, hv8⟩ := hrel
        have HF8 := hid hF8
        have HV8 := hid hv8
        by_cases hdl : d < (m.own i j).length
        · have hdi : (d : Int) < ((m.own i j).length : Int) := by omega
          obtain ⟨x, hx⟩ : ∃ x, (m.own i j)[d]? = some x := ⟨_, List.getElem?_eq_getElem hdl⟩
          obtain ⟨-, g2, o2, hga2, hcell2⟩ := (RdV.of_own hv8).at d (iv x) (by rw [List.getElem?_map, hx]; rfl)
          subst hga2
          have hcell2' : wr.cell? ⟨g2, o2 + d, none⟩ = some (.int .i64 (x : Nat)) := hcell2
          obtain ⟨hxn, hxc⟩ := own_mem.1 (List.mem_of_getElem? hx)
          have HT8 := hid (take_snoc' (m.own i j) d x hx)
          have HXC := hid hxc
          obtain ⟨S, hS, hSe⟩ := hF8.st
          have HS := hid hS
          have HSE := hid hSe
          have hSf : S (pairV i x) = false := by
            rw [hSe]
            have h := HND.out
            rw [← List.take_append_drop (d + 1) (m.own i j), HT8.out, List.map_append, List.map_append, ← List.append_assoc, ← List.append_assoc] at h
            have h2 := (List.nodup_append.1 (List.nodup_append.1 h).1).2.2
            exact decide_eq_false (fun hm => h2 _ hm (i, x) (by simp) rfl)
          have HSF := hid hSf
          obtain ⟨l, hl⟩ := pair_key i x (by have := HIR.out; omega) (by omega)
          have HKL := hid hl
          obtain ⟨S2, hS2, hS3⟩ : ∃ S2 : Value → Bool, S2 (pairV i x) = true ∧ ∀ y, y ≠ pairV i x → S2 y = S y := by
            classical
            exact ⟨fun v => if v = pairV i x then true else S v, by simp, fun y hy => by simp [hy]⟩
          have HS2 := hid hS2
          have HS3 := hid hS3
          have hPL2 : ((J.take c).flatMap m.spots ++ ((m.own i j).take d).map fun x => (i, x)).length ≤ 3000 := by
            rw [List.length_append, List.length_map]
            have : ((m.own i j).take d).length ≤ 16 := Nat.le_trans (List.length_take_le' _ _) hNL
            omega
          have xi : (x : Int) < 16 := by omega
          clear hF8 hv8 hcell2 hx hS hSe hSf hl hS2 hS3 hxc
          go_wp2_with (at_lookup; (refine setp_look rfl (.tmp 81) (.tmp 84) 59 64 4 rfl Try.underlying59 pair_law Try.underlying4 zeroB _ _ S (pairV i x) l rfl rfl HKL.out HS.out ?_); rw [HSF.out])
          refine (at_yes wr b m i x HF8.out.mx HIR.out hxn).mono ?_
          rintro e w9 ⟨rfl, rfl⟩
          rw [HXC.out]
          go_wp2_with (at_mapUpdate; (refine setp_put rfl (.tmp 94) (.tmp 97) _ 59 64 4 rfl Try.underlying59 pair_law Try.underlying4 _ _ S (pairV i x) l true rfl rfl rfl HKL.out HS.out (by unfold maxLen; omega) S2 HS2.out HS3.out ?_); intro wx hSx2 hgx; have HSX := hid hSx2; have HGX := hid hgx; clear hSx2 hgx)
          have HF9 := hid (HF8.out.put i x S S2 HSE.out HS2.out HS3.out HSX.out HGX.out)
          rw [List.append_assoc, ← List.map_singleton, ← List.map_append, ← HT8.out] at HF9
          have HV9 := hid (owns_by HV8.out (fun q hq => HGX.out.block q (World.ownsRow.lt HV8.out q hq).2 (by have := (World.ownsRow.lt HV8.out q hq).1; intro e; have e2 := Option.some.inj e; omega)))
          go_roundw
          case rel => exact ⟨d + 1, hdl, by go_num, HF9.out, HV9.out⟩
          case measure => simp [intOf]; omega
        · have hdi : ¬ (d : Int) < ((m.own i j).length : Int) := by omega
          have HF9 := hid (show ApartAt w b wc.heap.size m (.slice (some ⟨g, o, none⟩) J.length c6) J ((J.take (c + 1)).flatMap m.spots) wr by
            rw [HTK.out, List.flatMap_append, List.flatMap_cons, List.flatMap_nil, List.append_nil, HNN.out]
            have h := hF8
            rw [List.take_of_length_le (show (m.own i j).length ≤ d by omega)] at h
            exact h)
          clear hF8 hv8 hdl
          go_wp2
          go_roundw
          case rel => exact ⟨c + 1, hcl, by go_num, HF9.out⟩
          case measure => simp [intOf]; omega
    · have hci : ¬ (c : Int) < (J.length : Int) := by omega
      have HMZ := hid hFA.mx
      have HBZ := hid hFA.be
      have HWB := hid hFA.or.1
      clear hFA hcl
      go_wp2_with fail
      go_loopw [101] (fun i wr => ∃ k : Nat, k ≤ m.r ∧ i = .int .i64 k ∧ MxAt wr b m ∧ Below w.heap.size w wr) (fun i _ => m.r - (intOf i).toNat)
      case atStart => exact ⟨0, Nat.zero_le _, rfl, HMZ.out, HBZ.out⟩
      case round =>
        obtain ⟨k, hk, rfl, hmk, hbk⟩ := hrel
        have HMK := hid hmk
        have HBK := hid hbk
        by_cases hkr : k < m.r
        · have hki : (k : Int) < (m.r : Int) := by omega
          have hmm : ∀ w : World, (Instr.makeMap 66 none).run Try.prog w = .ok (.map (some w.heap.size)) (w.alloc (.map #[] 0)) := fun w => rfl
          clear hmk hbk
          go_wp2_with fail
          obtain ⟨wc2, hwc2⟩ : ∃ wc2, wc2 = wr := ⟨_, rfl⟩
          subst hwc2
          have hbW : Below wc2.heap.size wc2 (wc2.alloc (.map #[] 0)) := (Below.refl _ wc2).alloc (Nat.le_refl _) _
          obtain ⟨W2, hW2⟩ : ∃ W2, W2 = wc2.alloc (.map #[] 0) := ⟨_, rfl⟩
          rw [← hW2]
          rw [← hW2] at hbW
          have s2 : W2.heap.size = wc2.heap.size + 1 := by rw [hW2, World.size_alloc]
          have HM2 := hid (HMK.out.below hbW HMK.out.lt)
          have HBW := hid hbW
          have HW2 := hid hW2
          have HS2' := hid s2
          clear hW2 hmm s2 hbW
          refine (row_any W2 b k m HM2.out hkr).mono ?_
          rintro e w3 ⟨v1, rfl, hv1, -, hb3⟩
          have HV1 := hid hv1
          have HM3 := hid (HM2.out.below hb3 HM2.out.lt)
          have HB3 := hid hb3
          have hs3 := hb3.size
          clear hv1 hb3
          go_wp2_with fail
          refine (fill_any w3 b k m HM3.out hkr).mono ?_
          rintro e w4 ⟨v2, rfl, hv2, hb4⟩
          have HV2 := hid hv2
          have HV3 := hid (owns_below HV1.out hb4)
          have HB4 := hid (HB3.out.trans (hb4.mono hs3))
          have hs4 := hb4.size
          clear hv2 hb4
          have hl1 := m.row_len k
          have hl2 : (m.fill k).length ≤ 128 := Nat.le_trans (fillRow_len m k m.r) (Nat.le_trans (Nat.mul_le_mul r8 n16) (by omega))
          obtain ⟨L, hL⟩ : ∃ L, L = m.goers k := ⟨_, rfl⟩
          have hN2 : L.length = (m.row k).length + (m.fill k).length := by rw [hL]; unfold Mx.goers; rw [List.length_append]
          have HN2 := hid hN2
          clear hN2
          have HLM := hid (show (m.row k).map uv ++ (m.fill k).map uv = L.map uv by rw [hL]; unfold Mx.goers; rw [List.map_append])
          have HLN := hid (show (L.flatMap m.nodes).Nodup by rw [hL]; exact goers_nodup HBU.out hkr)
          have HLW := hid (show ∀ j ∈ L, ∃ i, m.where j = some i by rw [hL]; exact goers_where HBU.out hkr)
          clear hL
          go_wp2_with (at_builtin; (refine appsw (by rfl) 60 33 (.tmp 107) (.tmp 110) rfl W2.heap.size 1 4 _ Try.underlying60 Try.infoU32 rfl (by decide) _ _ (m.row k).length (m.fill k).length L.length _ _ rfl rfl HV3.out (SrcC.of_own HV2.out) (by simp) (by intro y hy; obtain ⟨_, _, rfl⟩ := List.mem_map.1 hy; rfl) HN2.out (by omega) (by omega) (by omega) ?_); intro ad9 cp9 wA hoA hgA; have HOA := hid hoA; have HGA := hid hgA; clear hoA hgA)
          have HUA := hid (show UsedAt w b wc2.heap.size m (.slice ad9 L.length cp9) L [] wA from by
            have hb : Below W2.heap.size W2 wA := HB4.out.trans ((Keeps.of_grown HGA.out).below (by omega) (fun i hi => (World.ownsRow.lt HV3.out i hi).1))
            have ho := HOA.out
            have hs := hb.size
            rw [HLM.out] at ho
            rw [HS2'.out] at hb ho hs
            have hst := SetAt.new 3 4 .i64 wc2
            rw [← HW2.out] at hst
            exact ⟨HM2.out.below hb (by have := HMK.out.lt; omega), ⟨_, hst.block (hb.block _ (by omega)), fun x => by simp⟩, ho, HBK.out.trans ((HBW.out.mono HBK.out.size).trans (hb.mono (by have := HBK.out.size; omega))), ⟨HWB.out, HMK.out.lt, by omega⟩⟩)
          have hLl : L.length ≤ 144 := by have := HN2.out; omega
          clear hl1 hl2 hs3 hs4
          go_loopw [113] (fun i wr => ∃ c : Nat, c ≤ L.length ∧ i = .int .i64 c ∧ UsedAt w b wc2.heap.size m (.slice ad9 L.length cp9) L ((L.take c).flatMap m.nodes) wr) (fun i _ => L.length - (intOf i).toNat)
          case atStart => exact ⟨0, Nat.zero_le _, rfl, HUA.out⟩
          case round =>
            obtain ⟨c, hc, rfl, hFA⟩ := hrel
            have HFW := hid hFA
            by_cases hcl : c < L.length
            · have hci : (c : Int) < (L.length : Int) := by omega
              obtain ⟨j, hj⟩ : ∃ j, L[c]? = some j := ⟨_, List.getElem?_eq_getElem hcl⟩
              obtain ⟨-, g, o, hga, hcell⟩ := (RdV.of_own hFA.ls).at c (uv j) (by rw [List.getElem?_map, hj]; rfl)
              subst hga
              have hcell' : wr.cell? ⟨g, o + c, none⟩ = some (.int .u32 (j : Nat)) := hcell
              obtain ⟨i, hi⟩ := HLW.out j (List.mem_of_getElem? hj)
              have HWI := hid hi
              have HTK := hid (take_snoc' L c j hj)
              have HNN := hid (Mx.nodes_of hi)
              have HND := hid (show ((L.take c).flatMap m.nodes ++ m.own i j).Nodup by
                have h := HLN.out
                rw [← List.take_append_drop (c + 1) L, List.flatMap_append, HTK.out, List.flatMap_append, List.flatMap_cons, List.flatMap_nil, List.append_nil, HNN.out] at h
                exact (List.nodup_append.1 h).1)
              obtain ⟨hj0, hir, hne, -⟩ := Mx.where_some hi
              have j32 : j < 4294967296 := by
                obtain ⟨x, hx⟩ := List.exists_mem_of_ne_nil _ hne
                rw [← (own_mem.1 hx).2]
                exact hFA.mx.c32 _
              have hNL : (m.own i j).length ≤ 16 := Nat.le_trans (Mx.at_len _ _) n16
              have hPL : ((L.take c).flatMap m.nodes).length ≤ 144 * 16 := by
                refine Nat.le_trans (flat_len m.nodes 16 (L.take c) (fun b _ => ?_)) (Nat.mul_le_mul_right _ (Nat.le_trans (List.length_take_le' _ _) hLl))
                unfold Mx.nodes
                split
                · exact Nat.zero_le _
                · exact Nat.le_trans (Mx.at_len _ _) n16
              have jb : (j : Int) < 4294967296 := by omega
              clear hFA hcell hj hi hj0 hir hne j32
              go_wp2_with fail
              refine (of_some wr b m j i HFW.out.mx HWI.out).mono ?_
              rintro e w7 ⟨v7, rfl, hv7, -, hb7⟩
              obtain ⟨a7, c7, rfl, hcl7, hcm7⟩ := owns_slice hv7
              have HV7 := hid (owns_base hv7 (show wc2.heap.size + 1 ≤ wr.heap.size by have := HFW.out.or; omega))
              have HF7 := hid (HFW.out.below hb7)
              clear hv7 hb7 hcl7 hcm7
              go_wp2_with fail
              go_loopw [126] (fun i' wr' => ∃ d : Nat, d ≤ (m.own i j).length ∧ i' = .int .i64 d ∧ UsedAt w b wc2.heap.size m (.slice (some ⟨g, o, none⟩) L.length cp9) L ((L.take c).flatMap m.nodes ++ (m.own i j).take d) wr' ∧ wr'.ownsRow (wc2.heap.size + 1) 3 1 (.slice a7 (m.own i j).length c7) (m.own i j).length ((m.own i j).map iv)) (fun i' _ => (m.own i j).length - (intOf i').toNat)
              case atStart => exact ⟨0, Nat.zero_le _, rfl, by rw [List.take_zero, List.append_nil]; exact HF7.out, HV7.out⟩
              case round =>
                obtain ⟨d, hd, rfl, hF8, hv8⟩ := hrel
                have HF8 := hid hF8
                have HV8 := hid hv8
                by_cases hdl : d < (m.own i j).length
                · have hdi : (d : Int) < ((m.own i j).length : Int) := by omega
                  obtain ⟨x, hx⟩ : ∃ x, (m.own i j)[d]? = some x := ⟨_, List.getElem?_eq_getElem hdl⟩
                  obtain ⟨-, g2, o2, hga2, hcell2⟩ := (RdV.of_own hv8).at d (iv x) (by rw [List.getElem?_map, hx]; rfl)
                  subst hga2
                  have hcell2' : wr.cell? ⟨g2, o2 + d, none⟩ = some (.int .i64 (x : Nat)) := hcell2
                  have hxn : x < m.n := (own_mem.1 (List.mem_of_getElem? hx)).1
                  have HT8 := hid (take_snoc' (m.own i j) d x hx)
                  obtain ⟨S, hS, hSe⟩ := hF8.st
                  have HS := hid hS
                  have HSE := hid hSe
                  have HSF := hid (show S (x : Int) = false by
                    rw [hSe]
                    have h := HND.out
                    rw [← List.take_append_drop (d + 1) (m.own i j), HT8.out, ← List.append_assoc, ← List.append_assoc] at h
                    have h2 := (List.nodup_append.1 (List.nodup_append.1 h).1).2.2
                    exact decide_eq_false (fun hm => h2 x hm x (by simp) rfl))
                  have HWF := hid (wf16 (show x < 16 by omega))
                  have hPL2 : ((L.take c).flatMap m.nodes ++ (m.own i j).take d).length ≤ 3000 := by
                    rw [List.length_append]
                    have : ((m.own i j).take d).length ≤ 16 := Nat.le_trans (List.length_take_le' _ _) hNL
                    omega
                  have xi : (x : Int) < 16 := by omega
                  clear hF8 hv8 hcell2 hx hS hSe
                  have HBIG := hid (show ((L.take c).flatMap m.nodes ++ (m.own i j).take d).length < maxLen by unfold maxLen; omega)
                  clear hPL hPL2
                  go_wp2_with (first | (at_lookup; (refine set_look rfl (.tmp 130) (.tmp 131) 66 3 4 .i64 rfl Try.underlying66 Try.underlying3 Try.underlying4 (zeroB _) _ _ _ _ rfl rfl HWF.out HS.out ?_); rw [HSF.out]; refine wpList_nil ?_; simp only [Act.put, List.setIfInBounds_toArray, List.set_cons_zero, List.set_cons_succ]) | (at_mapUpdate; (refine set_put rfl (.tmp 133) (.tmp 134) _ 66 3 4 .i64 rfl Try.underlying66 Try.underlying3 Try.underlying4 _ _ _ _ true rfl rfl rfl HWF.out HS.out HBIG.out ?_); intro wx hSx2 hgx; have HSX := hid hSx2; have HGX := hid hgx; clear hSx2 hgx))
                  have HF9 := hid (HF8.out.put x S HSE.out HSX.out HGX.out)
                  rw [List.append_assoc, ← HT8.out] at HF9
                  have HV9 := hid (owns_by HV8.out (fun q hq => HGX.out.block q (World.ownsRow.lt HV8.out q hq).2 (by have := (World.ownsRow.lt HV8.out q hq).1; intro e; have e2 := Option.some.inj e; omega)))
                  go_roundw
                  case rel => exact ⟨d + 1, hdl, by go_num, HF9.out, HV9.out⟩
                  case measure => simp [intOf]; omega
                · have hdi : ¬ (d : Int) < ((m.own i j).length : Int) := by omega
                  have HF9 := hid (show UsedAt w b wc2.heap.size m (.slice (some ⟨g, o, none⟩) L.length cp9) L ((L.take (c + 1)).flatMap m.nodes) wr by
                    rw [HTK.out, List.flatMap_append, List.flatMap_cons, List.flatMap_nil, List.append_nil, HNN.out]
                    have h := hF8
                    rw [List.take_of_length_le (show (m.own i j).length ≤ d by omega)] at h
                    exact h)
                  clear hF8 hv8 hdl
                  go_wp2
                  go_roundw
                  case rel => exact ⟨c + 1, hcl, by go_num, HF9.out⟩
                  case measure => simp [intOf]; omega
            · have hci : ¬ (c : Int) < (L.length : Int) := by omega
              have HMZ2 := hid hFA.mx
              have HBZ2 := hid hFA.be
              clear hFA hcl
              go_wp2
              go_roundw
              case rel => exact ⟨k + 1, hkr, by go_num, HMZ2.out, HBZ2.out⟩
              case measure => simp [intOf]; omega
        · have hki : ¬ (k : Int) < (m.r : Int) := by omega
          clear hmk hbk hkr
          go_wp2_with fail
          go_ret
          exact ⟨rfl, HBK.out⟩

/-! ### THE ROW's STEP -/
set_option maxRecDepth 100000 in
theorem lifted (os : Os) (started : os.Started) (H : Type) (enc : TypeId × Value → H) :
    ReturnsInHanded {} Try.checked os 4 .any (Rows.rowsApartSpec.pre6 enc Try.prog Try.f4 Rows.rowsApartRow.domain false) (Rows.rowsApartSpec.post enc Try.prog Try.f4 false true false false) := by
  refine returnsInHanded_of_change (C := Try.checked) own started (by kernel_rfl) Try.func4
    (ChangeSpec.witness6 (enc := enc) (C := Try.checked) false ⟨#[], #[.int .u8 0, .int .u8 0, .slice none 0 0, .slice none 0 0], []⟩ 8 (by kernel_rfl) (by kernel_rfl) (by kernel_rfl) (by kernel_rfl)) ?_
  intro W base args ds gs before hval0 hW hcnd _
  have hval : ∀ (j : Nat) t v, Try.f4.params[j]? = some t → args[j]? = some v → Value.okWide Try.prog W .any base t v := hval0
  have hW' := hW
  obtain ⟨p, q, hA0, hV, rfl, hfz, hnd⟩ := hW
  have hA : DataW.TrodAll enc Try.prog W 0 (fun _ => true) true Try.f4.params.toList args.toList ds p := hA0
  rw [Try.params4] at hA hval
  obtain ⟨v0, vs0, d0, ds0, p0, q0, hargs, rfl, rfl, h0, r0⟩ := trodAll_cons hA
  obtain ⟨v1, vs1, d1, ds1, p1, q1, rfl, rfl, rfl, h1, r1⟩ := trodAll_cons r0
  obtain ⟨v2, vs2, d2, ds2, p2, q2, rfl, rfl, rfl, h2, r2⟩ := trodAll_cons r1
  obtain ⟨v3, vs3, d3, ds3, p3, q3, rfl, rfl, rfl, h3, r3⟩ := trodAll_cons r2
  obtain ⟨rfl, rfl, rfl⟩ := trodAll_nil r3
  obtain rfl : args = #[v0, v1, v2, v3] := by cases args; simp_all
  obtain ⟨rfl, rfl⟩ := trodVars_none hV
  have k0 := h0
  have lt0 : ∀ x ∈ p0, x.block < W.heap.size := by obtain ⟨m, hm⟩ := k0; exact DataW.trod_lt m _ _ _ hm
  have k1 := h1
  have lt1 : ∀ x ∈ p1, x.block < W.heap.size := by obtain ⟨m, hm⟩ := k1; exact DataW.trod_lt m _ _ _ hm
  have k2 := h2
  have lt2 : ∀ x ∈ p2, x.block < W.heap.size := by obtain ⟨m, hm⟩ := k2; exact DataW.trod_lt m _ _ _ hm
  have k3 := h3
  have lt3 : ∀ x ∈ p3, x.block < W.heap.size := by obtain ⟨m, hm⟩ := k3; exact DataW.trod_lt m _ _ _ hm
  obtain ⟨a0, rfl, rfl, rfl, w0⟩ := open_int Try.underlying5 (hval 0 5 v0 rfl rfl) h0
  obtain ⟨a1, rfl, rfl, rfl, w1⟩ := open_int Try.underlying5 (hval 1 5 v1 rfl rfl) h1
  obtain ⟨a2, len2, cap2, rfl⟩ := okWide_slice Try.underlying54 (hval 2 54 v2 rfl rfl)
  obtain ⟨z2, w2⟩ : ∃ zs, IsRow .u8 W a2 len2 cap2 zs := by
    obtain ⟨fuel, hf⟩ := h2
    rcases open_ints Try.underlying54 Try.underlying5 (by kernel_rfl) hf with ⟨hcs, _⟩ | ⟨x, l, c, zs, hcs, _, hl, hm, hz, _, hcell, hwz⟩
    · simp [Value.cells] at hcs
      obtain ⟨rfl, rfl, rfl⟩ := hcs
      exact ⟨[], .inl ⟨rfl, rfl, rfl, rfl⟩⟩
    · simp [Value.cells] at hcs
      obtain ⟨rfl, rfl, rfl⟩ := hcs
      exact ⟨zs, .inr ⟨_, rfl, hl, hm, by simpa using hz, hcell, hwz⟩⟩
  obtain ⟨a3, len3, cap3, rfl⟩ := okWide_slice Try.underlying54 (hval 3 54 v3 rfl rfl)
  obtain ⟨z3, w3⟩ : ∃ zs, IsRow .u8 W a3 len3 cap3 zs := by
    obtain ⟨fuel, hf⟩ := h3
    rcases open_ints Try.underlying54 Try.underlying5 (by kernel_rfl) hf with ⟨hcs, _⟩ | ⟨x, l, c, zs, hcs, _, hl, hm, hz, _, hcell, hwz⟩
    · simp [Value.cells] at hcs
      obtain ⟨rfl, rfl, rfl⟩ := hcs
      exact ⟨[], .inl ⟨rfl, rfl, rfl, rfl⟩⟩
    · simp [Value.cells] at hcs
      obtain ⟨rfl, rfl, rfl⟩ := hcs
      exact ⟨zs, .inr ⟨_, rfl, hl, hm, by simpa using hz, hcell, hwz⟩⟩
  clear hA0 hval0
  refine (walk a0 a1 a2 len2 cap2 z2 a3 len3 cap3 z3 W w0 w1 w2 w3).mono fun e W' ⟨he, bel⟩ => ?_
  subst he
  exact ⟨_, rfl, _, _, _, [], _, [], hW', trodAll_mk1 (shut_bool Try.underlying4 _), (trodAll_cons_mk (Below.trod laidOut (by kernel_rfl) (of_decide_eq_true (by kernel_rfl)) k0 bel lt0) (trodAll_cons_mk (Below.trod laidOut (by kernel_rfl) (of_decide_eq_true (by kernel_rfl)) k1 bel lt1) (trodAll_cons_mk (Below.trod laidOut (by kernel_rfl) (of_decide_eq_true (by kernel_rfl)) k2 bel lt2) (trodAll_cons_mk (Below.trod laidOut (by kernel_rfl) (of_decide_eq_true (by kernel_rfl)) k3 bel lt3) trodAll_mk0)))), rfl, bel.frame _, fun h => by cases h⟩

theorem over : Rows.rowsApartRow.holds Try.pinned (OpenSpec.ofChange Rows.rowsApartSpec) :=
  OpenClaim.holds_of_wide 4 Try.f4 rfl rfl rfl rfl rfl rfl rfl ⟨rfl, rfl, rfl, rfl, rfl⟩ rfl rfl rfl rfl rfl (by kernel_rfl) Try.func4 (by kernel_rfl)
    (of_decide_eq_true (by kernel_rfl)) (by unfold Func.isWrapper; first | (rw [if_pos (by decide +kernel)]; kernel_rfl) | (rw [if_neg (by decide +kernel)]; exact ⟨rfl, rfl⟩))
    (fun os started H enc _ => lifted os started H enc)

/-- THE STATEMENT -/
theorem rowsApart_holds : Rows.RowsApartSaid := over
#print axioms rowsApart_holds
end Go.Proofs.Ytlobnipeplnodaa.rowsApart
