/-
  whoever could go with a row goes with it: none of those of other rows that are left out has all its nodes free there, and of those that go
  (The frame behind the walk is the guide's shell, at these parameters.)
-/
import Derived.Test.YtlobnipeplnodaaRows
import Derived.WalkKit
import Derived.Test.YtlobnipeplnodaaRowFw
import Derived.ProofKit
import Derived.Deep.Cut
import Derived.Deep.CutRange
import Derived.Deep.CutBlock
import Derived.Deep.Grids
import Derived.OpenShut
import Derived.ShutString
import Derived.ChangeOld
import Derived.Below
namespace Go.Proofs.Ytlobnipeplnodaa.rowsFill
open Go.ChangeShapes Go.WideShapes Go.ChangeAt Go.RowKit
open Go.ChangeMaps (open_string shut_string)
set_option linter.unusedVariables false

theorem own : ownKnob Try.prog.godebug = none := by kernel_rfl
theorem laidOut : laidOutB Try.prog = true := by kernel_rfl

theorem zeroB (w : World) : (zeroValue 4).run Try.prog w = .ok (.bool false) w := by kernel_rfl

set_option maxRecDepth 100000 in
set_option maxHeartbeats 8000000 in
theorem walk (a0 : Int) (a1 : Int) (a2 : Option Addr) (len2 cap2 : Nat) (z2 : List Int) (a3 : Option Addr) (len3 cap3 : Nat) (z3 : List Int) (a4 : Int) (w : World) (w0 : (Lit.int .u8 a0).wf = true) (w1 : (Lit.int .u8 a1).wf = true) (w2 : IsRow .u8 w a2 len2 cap2 z2) (w3 : IsRow .u8 w a3 len3 cap3 z3) (w4 : (Lit.int .u8 a4).wf = true) :
    Calls Try.prog 9 #[.int .u8 a0, .int .u8 a1, .slice a2 len2 cap2, .slice a3 len3 cap3, .int .u8 a4] w fun e w' => e = .returned (.bool true) ∧ Below w.heap.size w w' := by
  obtain ⟨ws, hwl, hwr, hw8⟩ := w2.rdn
  obtain ⟨gs, hgl, hgr, hg8⟩ := w3.rdn
  have bd0 := bounds_u8 w0
  have bd1 := bounds_u8 w1
  have bd4 := bounds_u8 w4
  obtain ⟨r0, rfl⟩ := Int.eq_ofNat_of_zero_le (show 0 ≤ a0 by omega)
  obtain ⟨n0, rfl⟩ := Int.eq_ofNat_of_zero_le (show 0 ≤ a1 by omega)
  obtain ⟨k0, rfl⟩ := Int.eq_ofNat_of_zero_le (show 0 ≤ a4 by omega)
  have HWR := hid hwr
  have HGR := hid hgr
  have HW8 := hid hw8
  have HG8 := hid hg8
  have HR0 := hid (show r0 < 256 by omega)
  have HN0 := hid (show n0 < 256 by omega)
  have hk8 : (k0 : Int) < 256 := by omega
  clear w0 w1 w2 w3 w4 hwl hwr hw8 hgl hgr hg8 bd0 bd1 bd4
  go_enter Try.func9, Try.ntmps9
  go_wp2_with fail
  refine (awake12_any w).mono ?_
  rintro e wa ⟨rfl, hba⟩
  have HBA := hid hba
  have hsa := hba.size
  clear hba
  go_wp2_with fail
  refine (build_any wa r0 n0 HR0.out HN0.out (.slice a2 len2 cap2) (.slice a3 len3 cap3) ws gs (HWR.out.all HBA.out) (HGR.out.all HBA.out) HW8.out HG8.out).mono ?_
  rintro e wb ⟨b, kk, rfl, hbb, m, hm, hbu, hmr, hmn, hBb, -⟩
  have HM := hid hm
  have HBU := hid hbu
  have HBB := hid hBb
  have hsb := hBb.size
  have hlt := hm.lt
  clear hm hbu hmr hmn hBb
  go_wp2_with fail
  refine (size_any wb b m HM.out).mono ?_
  rintro e wc ⟨rfl, nd, hwc⟩
  have hbc : Below wb.heap.size wb wc := by rw [hwc]; exact ⟨rfl, rfl, rfl, Nat.le_refl _, fun _ _ => rfl⟩
  have HMC := hid (HM.out.below hbc hlt)
  have HKP := hid (show Below w.heap.size w wc from HBA.out.trans ((HBB.out.mono (by omega)).trans (hbc.mono (by omega))))
  have n1 := HMC.out.n1
  have n16 := HMC.out.n16
  have r1 := HMC.out.r1
  have r8 := HMC.out.r8
  have HBG := hid (show w.heap.size ≤ b ∧ b < wc.heap.size from ⟨by omega, HMC.out.lt⟩)
  clear hbc hwc hlt hsa hsb hbb
  obtain ⟨k, hk⟩ : ∃ k, k = k0 % m.r := ⟨_, rfl⟩
  have q1 : (k0 : Int) % (m.r : Int) = (k : Int) := by rw [hk]; exact (Int.natCast_emod k0 m.r).symm
  have q2 : (k0 : Int).tmod (m.r : Int) = (k : Int) := by rw [Int.tmod_eq_emod_of_nonneg (by omega)]; exact q1
  have hkr : k < m.r := by rw [hk]; exact Nat.mod_lt _ (by omega)
  have hn0 : ((m.r : Int) == 0) = false := by simp; omega
  have hn00 : ¬ (m.r : Int) = 0 := by omega
  clear hk
  have hmk := mkbool12 m.n n16
  have hmm : ∀ w : World, (Instr.makeMap 75 none).run Try.prog w = .ok (.map (some w.heap.size)) (w.alloc (.map #[] 0)) := fun w => rfl
  go_wp2_with fail
  obtain ⟨W2, hW2⟩ : ∃ W2, W2 = (wc.alloc (.cells (tkCells m.n []).toArray 4)).alloc (.map #[] 0) := ⟨_, rfl⟩
  rw [← hW2]
  have s2 : W2.heap.size = wc.heap.size + 1 + 1 := by rw [hW2, World.size_alloc, World.size_alloc]
  have HM2 := hid (show MxAt W2 b m by rw [hW2]; exact HMC.out.block ((((Keeps.refl (fun _ => False) wc).alloc _).alloc _).block b HBG.out.2 id))
  have HW2 := hid hW2
  have HS2 := hid s2
  clear hW2 hmk hmm s2
  refine (row_any W2 b k m HM2.out hkr).mono ?_
  rintro e w3 ⟨v1, rfl, hv1, -, hb3⟩
  have HV1 := hid hv1
  have HM3 := hid (HM2.out.below hb3 HM2.out.lt)
  have HB3 := hid hb3
  have hs3 := hb3.size
  clear hv1 hb3
  go_wp2_with fail
  refine (fill_any w3 b k m HM3.out hkr).mono ?_
  rintro e w4 ⟨v2, rfl, hv2, hb4⟩
  have HV2 := hid hv2
  have HV3 := hid (owns_below HV1.out hb4)
  have HB4 := hid (HB3.out.trans (hb4.mono hs3))
  have hs4 := hb4.size
  clear hv2 hb4
  have hl1 := m.row_len k
  have hl2 : (m.fill k).length ≤ 128 := Nat.le_trans (fillRow_len m k m.r) (Nat.le_trans (Nat.mul_le_mul r8 n16) (by omega))
  obtain ⟨L, hL⟩ : ∃ L, L = m.goers k := ⟨_, rfl⟩
  have hN2 : L.length = (m.row k).length + (m.fill k).length := by rw [hL]; unfold Mx.goers; rw [List.length_append]
  have HN2 := hid hN2
  clear hN2
  have HLM := hid (show (m.row k).map uv ++ (m.fill k).map uv = L.map uv by rw [hL]; unfold Mx.goers; rw [List.map_append])
  have HLN := hid (show (L.flatMap m.nodes).Nodup by rw [hL]; exact goers_nodup HBU.out hkr)
  have HLW := hid (show ∀ j ∈ L, ∃ i, m.where j = some i by rw [hL]; exact goers_where HBU.out hkr)
  have HLO := hid (show ∀ j ∈ m.jobs, j ∈ L ∨ ∃ x ∈ m.nodes j, x ∈ L.flatMap m.nodes by rw [hL]; exact goers_out HBU.out hkr)
  clear hL
  go_wp2_with (at_builtin; (refine appsw (by rfl) 60 33 (.tmp 57) (.tmp 60) rfl W2.heap.size 1 4 _ Try.underlying60 Try.infoU32 rfl (by decide) _ _ (m.row k).length (m.fill k).length L.length _ _ rfl rfl HV3.out (SrcC.of_own HV2.out) (by simp) (by intro y hy; obtain ⟨_, _, rfl⟩ := List.mem_map.1 hy; rfl) HN2.out (by omega) (by omega) (by omega) ?_); intro ad9 cp9 wA hoA hgA; have HOA := hid hoA; have HGA := hid hgA; clear hoA hgA)
  have HFA := hid (show FillAt w b wc.heap.size (wc.heap.size + 1) m (.slice ad9 L.length cp9) L [] [] wA from by
    have hb : Below W2.heap.size W2 wA := HB4.out.trans ((Keeps.of_grown HGA.out).below (by omega) (fun i hi => (World.ownsRow.lt HV3.out i hi).1))
    have ho := HOA.out
    rw [HS2.out] at hb ho
    rw [HLM.out] at ho
    rw [HW2.out] at hb
    exact FillAt.start HMC.out HBG.out HKP.out hb ho)
  have hLl : L.length ≤ 144 := by have := HN2.out; omega
  clear hl1 hl2 hs3 hs4
  go_loopw [63] (fun i wr => ∃ c : Nat, c ≤ L.length ∧ i = .int .i64 c ∧ FillAt w b wc.heap.size (wc.heap.size + 1) m (.slice ad9 L.length cp9) L ((L.take c).flatMap m.nodes) (L.take c) wr) (fun i _ => L.length - (intOf i).toNat)
  case atStart => exact ⟨0, Nat.zero_le _, rfl, HFA.out⟩
  case round =>
    obtain ⟨c, hc, rfl, hFA⟩ := hrel
    have HFW := hid hFA
    by_cases hcl : c < L.length
    · have hci : (c : Int) < (L.length : Int) := by omega
      obtain ⟨j, hj⟩ : ∃ j, L[c]? = some j := ⟨_, List.getElem?_eq_getElem hcl⟩
      obtain ⟨-, g, o, hga, hcell⟩ := (RdV.of_own hFA.ls).at c (uv j) (by rw [List.getElem?_map, hj]; rfl)
      subst hga
      have hcell' : wr.cell? ⟨g, o + c, none⟩ = some (.int .u32 (j : Nat)) := hcell
      obtain ⟨i, hi⟩ := HLW.out j (List.mem_of_getElem? hj)
      have HWI := hid hi
      have HTK := hid (take_snoc' L c j hj)
      have HNN := hid (Mx.nodes_of hi)
      have HND := hid (show ((L.take c).flatMap m.nodes ++ m.own i j).Nodup by
        have h := HLN.out
        rw [← List.take_append_drop (c + 1) L, List.flatMap_append, HTK.out, List.flatMap_append, List.flatMap_cons, List.flatMap_nil, List.append_nil, HNN.out] at h
        exact (List.nodup_append.1 h).1)
      obtain ⟨hj0, hir, hne, -⟩ := Mx.where_some hi
      have j32 : j < 4294967296 := by
        obtain ⟨x, hx⟩ := List.exists_mem_of_ne_nil _ hne
        rw [← (own_mem.1 hx).2]
        exact hFA.mx.c32 _
      have HWF := hid (show (Lit.int .u32 (j : Int)).wf = true from (Lit.wf_int_iff _ _).2 ⟨by show (0 : Int) ≤ _; omega, by show _ ≤ (4294967295 : Int); omega⟩)
      have hNL : (m.own i j).length ≤ 16 := Nat.le_trans (Mx.at_len _ _) n16
      have htl : (L.take c).length ≤ 144 := Nat.le_trans (List.length_take_le' _ _) hLl
      have jb : (j : Int) < 4294967296 := by omega
      clear hFA hcell hj hi hj0 hir hne j32
      go_wp2_with fail
      refine (of_some wr b m j i HFW.out.mx HWI.out).mono ?_
      rintro e w6 ⟨v6, rfl, hv6, -, hb6⟩
      obtain ⟨a6, c6, rfl, hcl6, hcm6⟩ := owns_slice hv6
      have HV6 := hid (owns_base hv6 (show wc.heap.size + 1 + 1 ≤ wr.heap.size by have := HFW.out.or; omega))
      have HF6 := hid (HFW.out.below hb6)
      obtain ⟨S, hS, hSe⟩ := HF6.out.st
      have HS := hid hS
      have HSE := hid hSe
      clear hv6 hb6 hS hSe hcl6 hcm6
      go_wp2_with (at_mapUpdate; (refine set_put rfl (.tmp 74) (.tmp 75) _ 75 33 4 .u32 rfl Try.underlying75 Try.underlying33 Try.underlying4 _ _ _ _ true rfl rfl rfl HWF.out HS.out (by unfold maxLen; omega) ?_); intro wx hSx2 hgx; have HSX := hid hSx2; have HGX := hid hgx; clear hSx2 hgx)
      have HF7 := hid (HF6.out.put j S HSE.out HSX.out HGX.out)
      have HV7 := hid (owns_by HV6.out (fun q hq => HGX.out.block q (World.ownsRow.lt HV6.out q hq).2 (by have := (World.ownsRow.lt HV6.out q hq).1; intro e; have e2 := Option.some.inj e; omega)))
      go_loopw [78] (fun i' wr' => ∃ d : Nat, d ≤ (m.own i j).length ∧ i' = .int .i64 d ∧ FillAt w b wc.heap.size (wc.heap.size + 1) m (.slice (some ⟨g, o, none⟩) L.length cp9) L ((L.take c).flatMap m.nodes ++ (m.own i j).take d) (L.take c ++ [j]) wr' ∧ wr'.ownsRow (wc.heap.size + 1 + 1) 3 1 (.slice a6 (m.own i j).length c6) (m.own i j).length ((m.own i j).map iv)) (fun i' _ => (m.own i j).length - (intOf i').toNat)
      case atStart => exact ⟨0, Nat.zero_le _, rfl, by rw [List.take_zero, List.append_nil]; exact HF7.out, HV7.out⟩
      case round =>
        obtain ⟨d, hd, rfl, hF8, hv8⟩ := hrel
        have HF8 := hid hF8
        have HV8 := hid hv8
        by_cases hdl : d < (m.own i j).length
        · have hdi : (d : Int) < ((m.own i j).length : Int) := by omega
          obtain ⟨x, hx⟩ : ∃ x, (m.own i j)[d]? = some x := ⟨_, List.getElem?_eq_getElem hdl⟩
          obtain ⟨-, g2, o2, hga2, hcell2⟩ := (RdV.of_own hv8).at d (iv x) (by rw [List.getElem?_map, hx]; rfl)
          subst hga2
          have hcell2' : wr.cell? ⟨g2, o2 + d, none⟩ = some (.int .i64 (x : Nat)) := hcell2
          have hxn : x < m.n := (own_mem.1 (List.mem_of_getElem? hx)).1
          have HT8 := hid (take_snoc' (m.own i j) d x hx)
          have hct := hF8.cell x hxn
          have hnotin : decide (x ∈ (L.take c).flatMap m.nodes ++ (m.own i j).take d) = false := by
            have h := HND.out
            rw [← List.take_append_drop (d + 1) (m.own i j), HT8.out, ← List.append_assoc, ← List.append_assoc] at h
            have h2 := (List.nodup_append.1 (List.nodup_append.1 h).1).2.2
            exact decide_eq_false (fun hm => h2 x hm x (by simp) rfl)
          rw [hnotin] at hct
          have hfz := frozen_of_row _ _ (0 + x) _ _ hF8.tk
          rw [Nat.zero_add] at hfz
          have xi : (x : Int) < (m.n : Int) := by omega
          clear hF8 hv8 hcell2 hx hnotin
          go_wp2_with fail
          have HF9 := hid (HF8.out.tick x)
          rw [List.append_assoc, ← HT8.out] at HF9
          have kx := (Keeps.refl (fun i => i = wc.heap.size) wr).setCell (p := ⟨wc.heap.size, x, none⟩) (fun _ => rfl) (.bool true)
          have HV9 := hid (owns_by HV8.out (fun q hq => kx.block q (World.ownsRow.lt HV8.out q hq).2 (by have := (World.ownsRow.lt HV8.out q hq).1; omega)))
          clear kx
          go_roundw
          case rel => exact ⟨d + 1, hdl, by go_num, HF9.out, HV9.out⟩
          case measure => simp [intOf]; omega
        · have hdi : ¬ (d : Int) < ((m.own i j).length : Int) := by omega
          have HF9 := hid (show FillAt w b wc.heap.size (wc.heap.size + 1) m (.slice (some ⟨g, o, none⟩) L.length cp9) L ((L.take (c + 1)).flatMap m.nodes) (L.take (c + 1)) wr by
            rw [HTK.out, List.flatMap_append, List.flatMap_cons, List.flatMap_nil, List.append_nil, HNN.out]
            have h := hF8
            rw [List.take_of_length_le (show (m.own i j).length ≤ d by omega)] at h
            exact h)
          clear hF8 hv8 hdl
          go_wp2
          go_roundw
          case rel => exact ⟨c + 1, hcl, by go_num, HF9.out⟩
          case measure => simp [intOf]; omega
    · have hci : ¬ (c : Int) < (L.length : Int) := by omega
      have HFZ := hid (show FillAt w b wc.heap.size (wc.heap.size + 1) m (.slice ad9 L.length cp9) L (L.flatMap m.nodes) L wr by
        rw [List.take_of_length_le (show L.length ≤ c by omega)] at hFA
        exact hFA)
      obtain ⟨T, hT⟩ : ∃ T, T = L.flatMap m.nodes := ⟨_, rfl⟩
      rw [← hT] at HFZ HLO
      clear hFA hcl hT
      go_wp2_with fail
      refine (jobs_any wr b m HFZ.out.mx).mono ?_
      rintro e w6 ⟨v6, rfl, hv6, hb6⟩
      have HJW := hid (jobs_where HBU.out)
      obtain ⟨J, hJ⟩ : ∃ J, J = m.jobs := ⟨_, rfl⟩
      rw [← hJ] at hv6 HJW HLO
      have hJl : J.length ≤ 128 := by
        have h1 := m.upTo_len m.r
        have h2 : m.r * m.n ≤ 8 * 16 := Nat.mul_le_mul r8 n16
        have h3 : m.jobs.length = (m.upTo m.r).length := rising_len _
        rw [hJ]; omega
      obtain ⟨a6, c6, rfl, hcl6, hcm6⟩ := owns_slice hv6
      have HV6 := hid (owns_base hv6 (Nat.zero_le _))
      have HF6 := hid (HFZ.out.below hb6)
      clear hv6 hb6 hJ hcl6 hcm6
      go_wp2_with fail
      go_loopw [94] (fun i wr => ∃ c : Nat, c ≤ J.length ∧ i = .int .i64 c ∧ FillAt w b wc.heap.size (wc.heap.size + 1) m (.slice ad9 L.length cp9) L T L wr ∧ wr.ownsRow 0 33 1 (.slice a6 J.length c6) J.length (J.map uv)) (fun i _ => J.length - (intOf i).toNat)
      case atStart => exact ⟨0, Nat.zero_le _, rfl, HF6.out, HV6.out⟩
      case round =>
        obtain ⟨c, hc, rfl, hFA, hvA⟩ := hrel
        have HFW := hid hFA
        have HVW := hid hvA
        by_cases hcl : c < J.length
        · have hci : (c : Int) < (J.length : Int) := by omega
          obtain ⟨j, hj⟩ : ∃ j, J[c]? = some j := ⟨_, List.getElem?_eq_getElem hcl⟩
          obtain ⟨-, g, o, hga, hcell⟩ := (RdV.of_own hvA).at c (uv j) (by rw [List.getElem?_map, hj]; rfl)
          subst hga
          have hcell' : wr.cell? ⟨g, o + c, none⟩ = some (.int .u32 (j : Nat)) := hcell
          obtain ⟨i, hi⟩ := HJW.out j (List.mem_of_getElem? hj)
          have HWI := hid hi
          have HOUT := hid (show j ∈ L ∨ ∃ x ∈ m.own i j, x ∈ T by
            have h := HLO.out j (List.mem_of_getElem? hj)
            rwa [Mx.nodes_of hi] at h)
          obtain ⟨hj0, hir, hne, -⟩ := Mx.where_some hi
          have j32 : j < 4294967296 := by
            obtain ⟨x, hx⟩ := List.exists_mem_of_ne_nil _ hne
            rw [← (own_mem.1 hx).2]
            exact hFA.mx.c32 _
          have HWF := hid (show (Lit.int .u32 (j : Int)).wf = true from (Lit.wf_int_iff _ _).2 ⟨by show (0 : Int) ≤ _; omega, by show _ ≤ (4294967295 : Int); omega⟩)
          have hNL : (m.own i j).length ≤ 16 := Nat.le_trans (Mx.at_len _ _) n16
          have jb : (j : Int) < 4294967296 := by omega
          clear hFA hvA hcell hj hi hj0 hir hne j32
          go_wp2_with fail
          refine (of_some wr b m j i HFW.out.mx HWI.out).mono ?_
          rintro e w7 ⟨v7, rfl, hv7, -, hb7⟩
          obtain ⟨a7, c7, rfl, hcl7, hcm7⟩ := owns_slice hv7
          have HV7 := hid hv7
          have HF7 := hid (HFW.out.below hb7)
          have HVX := hid (owns_below HVW.out hb7)
          obtain ⟨S, hS, hSe⟩ := HF7.out.st
          have HS := hid hS
          have HSE := hid (hSe j)
          clear hv7 hb7 hS hSe hcl7 hcm7
          go_wp2_with fail
          obtain ⟨wq, hwq⟩ : ∃ wq, wq = w7 := ⟨_, rfl⟩
          subst hwq
          go_loopw [30, 107] (fun s i' wr' => ∃ d : Nat, d ≤ (m.own i j).length ∧ i' = .int .i64 d ∧ s = .bool (((m.own i j).take d).all fun x => !decide (x ∈ T)) ∧ wr' = wq) (fun _ i' _ => (m.own i j).length - (intOf i').toNat)
          case atStart => exact ⟨0, Nat.zero_le _, rfl, rfl, rfl⟩
          case round =>
            obtain ⟨d, hd, rfl, rfl, hwr⟩ := hrel
            have HWR2 := hid hwr
            subst hwr
            by_cases hdl : d < (m.own i j).length
            · have hdi : (d : Int) < ((m.own i j).length : Int) := by omega
              obtain ⟨x, hx⟩ : ∃ x, (m.own i j)[d]? = some x := ⟨_, List.getElem?_eq_getElem hdl⟩
              obtain ⟨-, g2, o2, hga2, hcell2⟩ := (RdV.of_own HV7.out).at d (iv x) (by rw [List.getElem?_map, hx]; rfl)
              subst hga2
              have hcell2' : wr.cell? ⟨g2, o2 + d, none⟩ = some (.int .i64 (x : Nat)) := hcell2
              have hxn : x < m.n := (own_mem.1 (List.mem_of_getElem? hx)).1
              have HT8 := hid (show ((m.own i j).take (d + 1)).all (fun x => !decide (x ∈ T)) = (((m.own i j).take d).all (fun x => !decide (x ∈ T)) && !decide (x ∈ T)) by
                rw [take_snoc' (m.own i j) d x hx, List.all_append]; simp)
              have hct := HF7.out.cell x hxn
              have xi : (x : Int) < (m.n : Int) := by omega
              generalize ((m.own i j).take d).all (fun x => !decide (x ∈ T)) = fr at *
              clear hcell2 hx
              cases fr with
              | false =>
                go_wp2
                go_roundw
                case rel => exact ⟨d + 1, hdl, by go_num, by rw [HT8.out]; rfl, trivial⟩
                case measure => simp [intOf]; omega
              | true =>
                generalize decide (x ∈ T) = tx at *
                go_wp2
                go_roundw
                case rel => exact ⟨d + 1, hdl, by go_num, by rw [HT8.out]; simp, trivial⟩
                case measure => simp [intOf]; omega
            · have hdi : ¬ (d : Int) < ((m.own i j).length : Int) := by omega
              have HAL := hid (show ((m.own i j).take d).all (fun x => !decide (x ∈ T)) = (m.own i j).all (fun x => !decide (x ∈ T)) by rw [List.take_of_length_le (show (m.own i j).length ≤ d by omega)])
              have hsel : (S (j : Int) = true) ∨ (S (j : Int) = false ∧ ((m.own i j).take d).all (fun x => !decide (x ∈ T)) = false) := by
                rcases HOUT.out with h | ⟨x, hx, hxT⟩
                · exact .inl (by rw [HSE.out]; exact decide_eq_true h)
                · cases hs : S (j : Int) with
                  | true => exact .inl rfl
                  | false =>
                    refine .inr ⟨rfl, ?_⟩
                    rw [HAL.out, List.all_eq_false]
                    exact ⟨x, hx, by simpa using hxT⟩
              generalize ((m.own i j).take d).all (fun x => !decide (x ∈ T)) = fr at *
              clear hdl
              rcases hsel with hs | ⟨hs, hfr⟩
              · go_wp2_with (at_lookup; (refine set_look rfl (.tmp 120) (.tmp 121) 75 33 4 .u32 rfl Try.underlying75 Try.underlying33 Try.underlying4 (zeroB _) _ _ _ _ rfl rfl HWF.out HS.out ?_); rw [hs])
                go_roundw
                case rel => exact ⟨c + 1, hcl, by go_num, HF7.out, HVX.out⟩
                case measure => simp [intOf]; omega
              · subst hfr
                go_wp2_with (at_lookup; (refine set_look rfl (.tmp 120) (.tmp 121) 75 33 4 .u32 rfl Try.underlying75 Try.underlying33 Try.underlying4 (zeroB _) _ _ _ _ rfl rfl HWF.out HS.out ?_); rw [hs])
                go_roundw
                case rel => exact ⟨c + 1, hcl, by go_num, HF7.out, HVX.out⟩
                case measure => simp [intOf]; omega
        · have hci : ¬ (c : Int) < (J.length : Int) := by omega
          have HBE := hid hFA.be
          clear hFA hvA hcl
          go_wp2_with fail
          go_ret
          exact ⟨rfl, HBE.out⟩

/-! ### THE ROW's STEP -/
set_option maxRecDepth 100000 in
theorem lifted (os : Os) (started : os.Started) (H : Type) (enc : TypeId × Value → H) :
    ReturnsInHanded {} Try.checked os 9 .any (Rows.rowsFillSpec.pre6 enc Try.prog Try.f9 Rows.rowsFillRow.domain false) (Rows.rowsFillSpec.post enc Try.prog Try.f9 false true false false) := by
  refine returnsInHanded_of_change (C := Try.checked) own started (by kernel_rfl) Try.func9
    (ChangeSpec.witness6 (enc := enc) (C := Try.checked) false ⟨#[], #[.int .u8 0, .int .u8 0, .slice none 0 0, .slice none 0 0, .int .u8 0], []⟩ 8 (by kernel_rfl) (by kernel_rfl) (by kernel_rfl) (by kernel_rfl)) ?_
  intro W base args ds gs before hval0 hW hcnd _
  have hval : ∀ (j : Nat) t v, Try.f9.params[j]? = some t → args[j]? = some v → Value.okWide Try.prog W .any base t v := hval0
  have hW' := hW
  obtain ⟨p, q, hA0, hV, rfl, hfz, hnd⟩ := hW
  have hA : DataW.TrodAll enc Try.prog W 0 (fun _ => true) true Try.f9.params.toList args.toList ds p := hA0
  rw [Try.params9] at hA hval
  obtain ⟨v0, vs0, d0, ds0, p0, q0, hargs, rfl, rfl, h0, r0⟩ := trodAll_cons hA
  obtain ⟨v1, vs1, d1, ds1, p1, q1, rfl, rfl, rfl, h1, r1⟩ := trodAll_cons r0
  obtain ⟨v2, vs2, d2, ds2, p2, q2, rfl, rfl, rfl, h2, r2⟩ := trodAll_cons r1
  obtain ⟨v3, vs3, d3, ds3, p3, q3, rfl, rfl, rfl, h3, r3⟩ := trodAll_cons r2
  obtain ⟨v4, vs4, d4, ds4, p4, q4, rfl, rfl, rfl, h4, r4⟩ := trodAll_cons r3
  obtain ⟨rfl, rfl, rfl⟩ := trodAll_nil r4
  obtain rfl : args = #[v0, v1, v2, v3, v4] := by cases args; simp_all
  obtain ⟨rfl, rfl⟩ := trodVars_none hV
  have k0 := h0
  have lt0 : ∀ x ∈ p0, x.block < W.heap.size := by obtain ⟨m, hm⟩ := k0; exact DataW.trod_lt m _ _ _ hm
  have k1 := h1
  have lt1 : ∀ x ∈ p1, x.block < W.heap.size := by obtain ⟨m, hm⟩ := k1; exact DataW.trod_lt m _ _ _ hm
  have k2 := h2
  have lt2 : ∀ x ∈ p2, x.block < W.heap.size := by obtain ⟨m, hm⟩ := k2; exact DataW.trod_lt m _ _ _ hm
  have k3 := h3
  have lt3 : ∀ x ∈ p3, x.block < W.heap.size := by obtain ⟨m, hm⟩ := k3; exact DataW.trod_lt m _ _ _ hm
  have k4 := h4
  have lt4 : ∀ x ∈ p4, x.block < W.heap.size := by obtain ⟨m, hm⟩ := k4; exact DataW.trod_lt m _ _ _ hm
  obtain ⟨a0, rfl, rfl, rfl, w0⟩ := open_int Try.underlying5 (hval 0 5 v0 rfl rfl) h0
  obtain ⟨a1, rfl, rfl, rfl, w1⟩ := open_int Try.underlying5 (hval 1 5 v1 rfl rfl) h1
  obtain ⟨a2, len2, cap2, rfl⟩ := okWide_slice Try.underlying54 (hval 2 54 v2 rfl rfl)
  obtain ⟨z2, w2⟩ : ∃ zs, IsRow .u8 W a2 len2 cap2 zs := by
    obtain ⟨fuel, hf⟩ := h2
    rcases open_ints Try.underlying54 Try.underlying5 (by kernel_rfl) hf with ⟨hcs, _⟩ | ⟨x, l, c, zs, hcs, _, hl, hm, hz, _, hcell, hwz⟩
    · simp [Value.cells] at hcs
      obtain ⟨rfl, rfl, rfl⟩ := hcs
      exact ⟨[], .inl ⟨rfl, rfl, rfl, rfl⟩⟩
    · simp [Value.cells] at hcs
      obtain ⟨rfl, rfl, rfl⟩ := hcs
      exact ⟨zs, .inr ⟨_, rfl, hl, hm, by simpa using hz, hcell, hwz⟩⟩
  obtain ⟨a3, len3, cap3, rfl⟩ := okWide_slice Try.underlying54 (hval 3 54 v3 rfl rfl)
  obtain ⟨z3, w3⟩ : ∃ zs, IsRow .u8 W a3 len3 cap3 zs := by
    obtain ⟨fuel, hf⟩ := h3
    rcases open_ints Try.underlying54 Try.underlying5 (by kernel_rfl) hf with ⟨hcs, _⟩ | ⟨x, l, c, zs, hcs, _, hl, hm, hz, _, hcell, hwz⟩
    · simp [Value.cells] at hcs
      obtain ⟨rfl, rfl, rfl⟩ := hcs
      exact ⟨[], .inl ⟨rfl, rfl, rfl, rfl⟩⟩
    · simp [Value.cells] at hcs
      obtain ⟨rfl, rfl, rfl⟩ := hcs
      exact ⟨zs, .inr ⟨_, rfl, hl, hm, by simpa using hz, hcell, hwz⟩⟩
  obtain ⟨a4, rfl, rfl, rfl, w4⟩ := open_int Try.underlying5 (hval 4 5 v4 rfl rfl) h4
  clear hA0 hval0
  refine (walk a0 a1 a2 len2 cap2 z2 a3 len3 cap3 z3 a4 W w0 w1 w2 w3 w4).mono fun e W' ⟨he, bel⟩ => ?_
  subst he
  exact ⟨_, rfl, _, _, _, [], _, [], hW', trodAll_mk1 (shut_bool Try.underlying4 _), (trodAll_cons_mk (Below.trod laidOut (by kernel_rfl) (of_decide_eq_true (by kernel_rfl)) k0 bel lt0) (trodAll_cons_mk (Below.trod laidOut (by kernel_rfl) (of_decide_eq_true (by kernel_rfl)) k1 bel lt1) (trodAll_cons_mk (Below.trod laidOut (by kernel_rfl) (of_decide_eq_true (by kernel_rfl)) k2 bel lt2) (trodAll_cons_mk (Below.trod laidOut (by kernel_rfl) (of_decide_eq_true (by kernel_rfl)) k3 bel lt3) (trodAll_cons_mk (Below.trod laidOut (by kernel_rfl) (of_decide_eq_true (by kernel_rfl)) k4 bel lt4) trodAll_mk0))))), rfl, bel.frame _, fun h => by cases h⟩

theorem over : Rows.rowsFillRow.holds Try.pinned (OpenSpec.ofChange Rows.rowsFillSpec) :=
  OpenClaim.holds_of_wide 9 Try.f9 rfl rfl rfl rfl rfl rfl rfl ⟨rfl, rfl, rfl, rfl, rfl⟩ rfl rfl rfl rfl rfl (by kernel_rfl) Try.func9 (by kernel_rfl)
    (of_decide_eq_true (by kernel_rfl)) (by unfold Func.isWrapper; first | (rw [if_pos (by decide +kernel)]; kernel_rfl) | (rw [if_neg (by decide +kernel)]; exact ⟨rfl, rfl⟩))
    (fun os started H enc _ => lifted os started H enc)

/-- THE STATEMENT -/
theorem rowsFill_holds : Rows.RowsFillSaid := over
#print axioms rowsFill_holds
end Go.Proofs.Ytlobnipeplnodaa.rowsFill
