/-
  RowsRound: for every input the law answers true: going from row to row each row that has anybody comes once, and then the first again. No conditions.
  (The frame behind the walk is the guide's shell, at these parameters.)
-/
import Derived.Test.YtlobnipeplnodaaRows
import Derived.WalkKit
import Derived.Test.YtlobnipeplnodaaRowRd
import Derived.Test.YtlobnipeplnodaaMapB
import Derived.ProofKit
import Derived.Deep.Cut
import Derived.Deep.CutRange
import Derived.Deep.CutBlock
import Derived.Deep.Grids
import Derived.OpenShut
import Derived.ShutString
import Derived.ChangeOld
import Derived.Below
namespace Go.Proofs.Ytlobnipeplnodaa.rowsRound
open Go.ChangeShapes Go.WideShapes Go.ChangeAt Go.RowKit
open Go.ChangeMaps (open_string shut_string)
set_option linter.unusedVariables false

theorem own : ownKnob Try.prog.godebug = none := by kernel_rfl
theorem laidOut : laidOutB Try.prog = true := by kernel_rfl

theorem nextVal_some (r : Nat) : nextVal (some r) = .tuple #[.int .i64 (r : Nat), .bool true] := rfl
theorem zeroB (w : World) : (zeroValue 4).run Try.prog w = .ok (.bool false) w := by kernel_rfl

/-- Going round: where it stands. -/
def Went (m : Mx) (C : List Nat) (i row : Nat) : Prop := row < m.r ∧ m.busy row = true ∧ m.cyc row = C.drop i ++ C.take i

/-- In the midst of it. -/
def Gone (m : Mx) (C : List Nat) (b mb i row : Nat) (w wr : World) : Prop :=
  Went m C i row ∧ (∃ S : Int → Bool, SetAt 3 4 .i64 wr mb i S ∧ ∀ x : Nat, S (x : Int) = decide (x ∈ C.take i)) ∧ MxAt wr b m ∧ Below w.heap.size w wr

set_option maxRecDepth 100000 in
set_option maxHeartbeats 8000000 in
theorem walk (a0 : Int) (a1 : Int) (a2 : Option Addr) (len2 cap2 : Nat) (z2 : List Int) (a3 : Option Addr) (len3 cap3 : Nat) (z3 : List Int) (a4 : Int) (w : World) (w0 : (Lit.int .u8 a0).wf = true) (w1 : (Lit.int .u8 a1).wf = true) (w2 : IsRow .u8 w a2 len2 cap2 z2) (w3 : IsRow .u8 w a3 len3 cap3 z3) (w4 : (Lit.int .i64 a4).wf = true) :
    Calls Try.prog 5 #[.int .u8 a0, .int .u8 a1, .slice a2 len2 cap2, .slice a3 len3 cap3, .int .i64 a4] w fun e w' => e = .returned (.bool true) ∧ Below w.heap.size w w' := by
  obtain ⟨ws, hwl, hwr, hw8⟩ := w2.rdn
  obtain ⟨gs, hgl, hgr, hg8⟩ := w3.rdn
  have bd0 := bounds_u8 w0
  have bd1 := bounds_u8 w1
  obtain ⟨r0, rfl⟩ := Int.eq_ofNat_of_zero_le (show 0 ≤ a0 by omega)
  obtain ⟨n0, rfl⟩ := Int.eq_ofNat_of_zero_le (show 0 ≤ a1 by omega)
  have HWR := hid hwr
  have HGR := hid hgr
  have HW8 := hid hw8
  have HG8 := hid hg8
  have HR0 := hid (show r0 < 256 by omega)
  have HN0 := hid (show n0 < 256 by omega)
  have hmm := @run_makeMap Try.prog
  clear w0 w1 w2 w3 w4 hwl hwr hw8 hgl hgr hg8 bd0 bd1
  go_enter Try.func5, Try.ntmps5
  go_wp2_with fail
  refine (awake12_any w).mono ?_
  rintro e wa ⟨rfl, hba⟩
  have HBA := hid hba
  have hsa := hba.size
  clear hba
  go_wp2_with fail
  refine (build_any wa r0 n0 HR0.out HN0.out (.slice a2 len2 cap2) (.slice a3 len3 cap3) ws gs (HWR.out.all HBA.out) (HGR.out.all HBA.out) HW8.out HG8.out).mono ?_
  rintro e wb ⟨b, kk, rfl, hbb, m, hm, hbu, hmr, hmn, hBb, -⟩
  have HM := hid hm
  have HBB := hid hBb
  have hsb := hBb.size
  have hlt := hm.lt
  have hr8 := hm.r8
  have hr1 := hm.r1
  clear hm hbu hmr hmn hBb
  go_wp2_with fail
  refine (size_any wb b m HM.out).mono ?_
  rintro e wc ⟨rfl, nd, hwc⟩
  have hbc : Below wb.heap.size wb wc := by rw [hwc]; exact ⟨rfl, rfl, rfl, Nat.le_refl _, fun _ _ => rfl⟩
  have HMC := hid (HM.out.below hbc hlt)
  have HKP := hid (show Below w.heap.size w wc from HBA.out.trans ((HBB.out.mono (by omega)).trans (hbc.mono (by omega))))
  have hsc := hbc.size
  have hri : (m.r : Int) ≤ 8 := by omega
  clear hbc hwc
  go_wp2_with fail
  go_loopw [15, 37] (fun n i wr => ∃ k : Nat, k ≤ m.r ∧ i = .int .i64 k ∧ n = .int .i64 ((List.range k).filter m.busy).length ∧ Below wc.heap.size wc wr) (fun _ i _ => m.r - (intOf i).toNat)
  case atStart => exact ⟨0, Nat.zero_le _, rfl, rfl, Below.refl _ _⟩
  case round =>
    obtain ⟨k, hk, rfl, rfl, hB⟩ := hrel
    have HB := hid hB
    have hsr := hB.size
    have HMR := hid (HMC.out.below hB HMC.out.lt)
    have hfl := List.length_filter_le m.busy (List.range k)
    rw [List.length_range] at hfl
    clear hB
    by_cases hlt2 : k < m.r
    · have hki : (k : Int) < (m.r : Int) := by omega
      go_wp2_with fail
      refine (row_any wr b k m HMR.out hlt2).mono ?_
      rintro e w6 ⟨v6, rfl, hv6, hn6, hb6⟩
      have HB6 := hid hb6
      obtain ⟨ad, cp, rfl, hcl, hcm⟩ := (RdV.of_own hv6).len
      rw [List.length_map] at hcl
      clear hv6 hn6 hb6
      rw [List.length_map]
      cases hbs : m.busy k with
      | false =>
        have h0 : (m.row k).length = 0 := by rw [busy_nil.2 hbs]; rfl
        have HF := hid (show ((List.range (k + 1)).filter m.busy).length = ((List.range k).filter m.busy).length by rw [upto_miss k _ hbs])
        rw [h0]
        generalize ((List.range k).filter m.busy).length = cn at *
        clear hbs h0
        go_wp2
        go_roundw
        case rel => exact ⟨k + 1, by omega, by go_num, by rw [HF.out], HB.out.trans (HB6.out.mono hsr)⟩
        case measure => simp [intOf]; omega
      | true =>
        have h0 : 0 < (m.row k).length := List.length_pos_iff.2 (fun e => by rw [busy_nil.1 e] at hbs; cases hbs)
        have h0i : (0 : Int) < ((m.row k).length : Int) := by omega
        have HF := hid (show ((List.range (k + 1)).filter m.busy).length = ((List.range k).filter m.busy).length + 1 by rw [upto_hit k _ hbs, List.length_append, List.length_singleton])
        generalize ((List.range k).filter m.busy).length = cn at *
        clear hbs h0
        go_wp2
        go_roundw
        case rel => exact ⟨k + 1, by omega, by go_num, by rw [HF.out]; go_num, HB.out.trans (HB6.out.mono hsr)⟩
        case measure => simp [intOf]; omega
    · have hki : ¬ (k : Int) < (m.r : Int) := by omega
      have ek : k = m.r := by omega
      obtain ⟨C, hC⟩ : ∃ C, C = m.cyc (m.from a4) := ⟨_, rfl⟩
      have hcl : ((List.range k).filter m.busy).length = C.length := by rw [ek, hC, cyc_len m (by omega)]
      rw [hcl]
      have HC := hid hC
      have hC16 : C.length ≤ 8 := by rw [← hcl]; omega
      clear hlt2 ek hcl hfl hC
      obtain ⟨wq, hwq⟩ : ∃ wq, wq = wr := ⟨_, rfl⟩
      subst hwq
      go_wp2_with fail
      refine (next_any wq b m a4 HMR.out).mono ?_
      rintro e w7 ⟨rfl, hb7⟩
      have HB7 := hid hb7
      have hs7 := hb7.size
      have HM7 := hid (HMR.out.below hb7 HMR.out.lt)
      clear hb7
      cases hnx : m.next a4 with
      | none =>
        have hC0 : C.length = 0 := by rw [HC.out, cyc_of_none hnx]; rfl
        rw [hC0]
        clear hnx hC0 hC16
        unfold nextVal
        go_wp2_with fail
        have HMP := hid (SetAt.new 3 4 .i64 w7)
        go_loopw [61] (fun i wr => i = .int .i64 0 ∧ wr = w7.alloc (.map #[] 0)) (fun i _ => 0)
        case atStart => exact ⟨rfl, rfl⟩
        case round =>
          obtain ⟨rfl, hw⟩ := hrel
          subst hw
          go_wp2
          go_ret
          exact ⟨rfl, HKP.out.trans ((HB.out.mono (by omega)).trans ((HB7.out.mono (by omega)).trans ((Below.refl w.heap.size w7).alloc (by omega) _)))⟩
      | some f =>
        have hW0 : Went m C 0 f := by
          obtain ⟨h1, h2, h3⟩ := seek_some (by omega) _ _ hnx
          refine ⟨h2, h1, ?_⟩
          rw [h3, HC.out, Nat.add_zero]
          simp
        obtain ⟨T, hT⟩ := cyc_head (by omega) hW0.1 hW0.2.1
        have hCT : C = f :: T := by rw [← hT, hW0.2.2]; simp
        have hClen : 0 < C.length := by rw [hCT]; simp
        have hCi : (0 : Int) < (C.length : Int) := by omega
        have HNO := hid (show C.Nodup by rw [HC.out]; exact cyc_nodup m (by omega) _)
        have HCT := hid hCT
        have HW0 := hid hW0
        clear hnx hT hCT hW0
        unfold nextVal
        go_wp2_with fail
        have HMP := hid (SetAt.new 3 4 .i64 w7)
        have HWM := hid (show (w7.alloc (.map #[] 0)).heap.size = w7.heap.size + 1 from World.size_alloc _ _)
        have hbm : Below w7.heap.size w7 (w7.alloc (.map #[] 0)) := (Below.refl _ _).alloc (Nat.le_refl _) _
        have HG0 := hid (show Gone m C b w7.heap.size 0 f w (w7.alloc (.map #[] 0)) from ⟨HW0.out, ⟨_, HMP.out, fun x => by simp⟩, HM7.out.below hbm HM7.out.lt, HKP.out.trans ((HB.out.mono (by omega)).trans ((HB7.out.mono (by omega)).trans (hbm.mono (by omega))))⟩)
        clear hbm
        go_loopw [20, 61] (fun rv i wr => ∃ k row : Nat, k ≤ C.length ∧ i = .int .i64 k ∧ rv = .int .i64 row ∧ Gone m C b w7.heap.size k row w wr ∧ w7.heap.size < wr.heap.size) (fun _ i _ => C.length - (intOf i).toNat)
        case atStart => exact ⟨0, f, Nat.zero_le _, rfl, rfl, HG0.out, by have := HWM.out; omega⟩
        case round =>
          obtain ⟨k2, row, hk2, rfl, rfl, ⟨hw, ⟨S, hS, hSx⟩, hmr, hbr⟩, hszr⟩ := hrel
          have hrow := hw.1
          have hrwi : (row : Int) < 8 := by omega
          have HMR2 := hid hmr
          have HBR := hid hbr
          have HSS := hid hS
          have HWF := hid (wf_row (show row < 1000000 by omega))
          by_cases hlt3 : k2 < C.length
          · obtain ⟨hget, hni, x, hx1, hx2, hx3, hx4⟩ := cyc_step (by omega) hw.1 hlt3 hw.2.2 HNO.out hw.2.1
            have hSf : S (row : Int) = false := by rw [hSx]; simpa using hni
            have HS2 := hid (show ∀ y : Nat, (if (y : Int) = (row : Int) then true else S (y : Int)) = decide (y ∈ C.take (k2 + 1)) from fun y => by
              rw [take_snoc' _ _ _ hget]
              by_cases e : y = row
              · subst e; simp
              · rw [if_neg (by omega), hSx]; simp [e])
            have HW2 := hid (show Went m C (k2 + 1) x from ⟨hx2, hx3, hx4⟩)
            have HX1 := hid hx1
            have hki2 : (k2 : Int) < (C.length : Int) := by omega
            have hne : 0 < (m.row row).length := List.length_pos_iff.2 (fun e => by have := hw.2.1; rw [busy_nil.1 e] at this; cases this)
            clear hw hS hSx hmr hbr hget hni hx1 hx3 hx4 hx2
            go_wp2_with (at_lookup; (refine set_look rfl (.tmp 63) (.tmp 64) 66 3 4 .i64 rfl Try.underlying66 Try.underlying3 Try.underlying4 (zeroB _) _ _ _ _ rfl rfl HWF.out HSS.out ?_); rw [hSf])
            refine (row_any wr b row m HMR2.out hrow).mono ?_
            rintro e w9 ⟨v9, rfl, hv9, hn9, hb9⟩
            have HB9 := hid hb9
            obtain ⟨ad, cp, rfl, hcl9, hcm9⟩ := (RdV.of_own hv9).len
            rw [List.length_map] at hcl9
            have HSB := hid (HSS.out.block (hb9.block _ HSS.out.lt))
            have HM9 := hid (HMR2.out.below hb9 HMR2.out.lt)
            have hs9 := hb9.size
            clear hv9 hn9 hb9 hSf
            rw [List.length_map]
            have hnei : ((((m.row row).length : Nat) : Int) == 0) = false := by rw [beq_eq_false_iff_ne]; omega
            go_wp2_with (at_mapUpdate; (refine set_put rfl (.tmp 73) (.tmp 74) _ 66 3 4 .i64 rfl Try.underlying66 Try.underlying3 Try.underlying4 _ _ _ _ true rfl rfl rfl HWF.out HSB.out (by unfold maxLen; omega) ?_); intro wx hSx2 hgx; have HSX := hid hSx2; have HGX := hid hgx; clear hSx2 hgx)
            have hbx : Below w.heap.size w9 wx := (Below.refl _ _).grown HGX.out (by omega) (fun g e => by cases e; omega)
            have HBX := hid hbx
            have HMX := hid (HM9.out.block (HGX.out.block b HM9.out.lt (fun e => by cases e; omega)))
            have hsx := hbx.size
            clear hbx
            refine (next_in wx b m row hrow HMX.out).mono ?_
            rintro e wy ⟨rfl, hby⟩
            rw [HX1.out]
            have HGN := hid (show Gone m C b w7.heap.size (k2 + 1) x w wy from ⟨HW2.out, ⟨_, HSX.out.block (hby.block _ HSX.out.lt), HS2.out⟩, HMX.out.below hby HMX.out.lt, HBR.out.trans ((HB9.out.mono (by omega)).trans (HBX.out.trans (hby.mono (by omega))))⟩)
            have hsy := hby.size
            clear hby hnei
            unfold nextVal
            go_wp2
            go_roundw
            case rel => exact ⟨k2 + 1, x, hlt3, by go_num, rfl, HGN.out, by omega⟩
            case measure => simp [intOf]; omega
          · have hki2 : ¬ (k2 : Int) < (C.length : Int) := by omega
            have hrf : row = f := by
              have ek : k2 = C.length := by omega
              obtain ⟨T2, hT2⟩ := cyc_head (by omega) hw.1 hw.2.1
              have h3 := hw.2.2
              rw [hT2, ek, List.drop_length, List.take_length, List.nil_append, HCT.out] at h3
              exact (List.cons.inj h3).1
            subst hrf
            have hC0 : ((C.length : Int) == 0) = false := by rw [beq_eq_false_iff_ne]; omega
            clear hw hS hSx hmr hbr hlt3
            go_wp2
            go_ret
            exact ⟨by simp, HBR.out⟩

/-! ### THE ROW's STEP -/
set_option maxRecDepth 100000 in
theorem lifted (os : Os) (started : os.Started) (H : Type) (enc : TypeId × Value → H) :
    ReturnsInHanded {} Try.checked os 5 .any (Rows.rowsRoundSpec.pre6 enc Try.prog Try.f5 Rows.rowsRoundRow.domain false) (Rows.rowsRoundSpec.post enc Try.prog Try.f5 false true false false) := by
  refine returnsInHanded_of_change (C := Try.checked) own started (by kernel_rfl) Try.func5
    (ChangeSpec.witness6 (enc := enc) (C := Try.checked) false ⟨#[], #[.int .u8 0, .int .u8 0, .slice none 0 0, .slice none 0 0, .int .i64 0], []⟩ 8 (by kernel_rfl) (by kernel_rfl) (by kernel_rfl) (by kernel_rfl)) ?_
  intro W base args ds gs before hval0 hW hcnd _
  have hval : ∀ (j : Nat) t v, Try.f5.params[j]? = some t → args[j]? = some v → Value.okWide Try.prog W .any base t v := hval0
  have hW' := hW
  obtain ⟨p, q, hA0, hV, rfl, hfz, hnd⟩ := hW
  have hA : DataW.TrodAll enc Try.prog W 0 (fun _ => true) true Try.f5.params.toList args.toList ds p := hA0
  rw [Try.params5] at hA hval
  obtain ⟨v0, vs0, d0, ds0, p0, q0, hargs, rfl, rfl, h0, r0⟩ := trodAll_cons hA
  obtain ⟨v1, vs1, d1, ds1, p1, q1, rfl, rfl, rfl, h1, r1⟩ := trodAll_cons r0
  obtain ⟨v2, vs2, d2, ds2, p2, q2, rfl, rfl, rfl, h2, r2⟩ := trodAll_cons r1
  obtain ⟨v3, vs3, d3, ds3, p3, q3, rfl, rfl, rfl, h3, r3⟩ := trodAll_cons r2
  obtain ⟨v4, vs4, d4, ds4, p4, q4, rfl, rfl, rfl, h4, r4⟩ := trodAll_cons r3
  obtain ⟨rfl, rfl, rfl⟩ := trodAll_nil r4
  obtain rfl : args = #[v0, v1, v2, v3, v4] := by cases args; simp_all
  obtain ⟨rfl, rfl⟩ := trodVars_none hV
  have k0 := h0
  have lt0 : ∀ x ∈ p0, x.block < W.heap.size := by obtain ⟨m, hm⟩ := k0; exact DataW.trod_lt m _ _ _ hm
  have k1 := h1
  have lt1 : ∀ x ∈ p1, x.block < W.heap.size := by obtain ⟨m, hm⟩ := k1; exact DataW.trod_lt m _ _ _ hm
  have k2 := h2
  have lt2 : ∀ x ∈ p2, x.block < W.heap.size := by obtain ⟨m, hm⟩ := k2; exact DataW.trod_lt m _ _ _ hm
  have k3 := h3
  have lt3 : ∀ x ∈ p3, x.block < W.heap.size := by obtain ⟨m, hm⟩ := k3; exact DataW.trod_lt m _ _ _ hm
  have k4 := h4
  have lt4 : ∀ x ∈ p4, x.block < W.heap.size := by obtain ⟨m, hm⟩ := k4; exact DataW.trod_lt m _ _ _ hm
  obtain ⟨a0, rfl, rfl, rfl, w0⟩ := open_int Try.underlying5 (hval 0 5 v0 rfl rfl) h0
  obtain ⟨a1, rfl, rfl, rfl, w1⟩ := open_int Try.underlying5 (hval 1 5 v1 rfl rfl) h1
  obtain ⟨a2, len2, cap2, rfl⟩ := okWide_slice Try.underlying54 (hval 2 54 v2 rfl rfl)
  obtain ⟨z2, w2⟩ : ∃ zs, IsRow .u8 W a2 len2 cap2 zs := by
    obtain ⟨fuel, hf⟩ := h2
    rcases open_ints Try.underlying54 Try.underlying5 (by kernel_rfl) hf with ⟨hcs, _⟩ | ⟨x, l, c, zs, hcs, _, hl, hm, hz, _, hcell, hwz⟩
    · simp [Value.cells] at hcs
      obtain ⟨rfl, rfl, rfl⟩ := hcs
      exact ⟨[], .inl ⟨rfl, rfl, rfl, rfl⟩⟩
    · simp [Value.cells] at hcs
      obtain ⟨rfl, rfl, rfl⟩ := hcs
      exact ⟨zs, .inr ⟨_, rfl, hl, hm, by simpa using hz, hcell, hwz⟩⟩
  obtain ⟨a3, len3, cap3, rfl⟩ := okWide_slice Try.underlying54 (hval 3 54 v3 rfl rfl)
  obtain ⟨z3, w3⟩ : ∃ zs, IsRow .u8 W a3 len3 cap3 zs := by
    obtain ⟨fuel, hf⟩ := h3
    rcases open_ints Try.underlying54 Try.underlying5 (by kernel_rfl) hf with ⟨hcs, _⟩ | ⟨x, l, c, zs, hcs, _, hl, hm, hz, _, hcell, hwz⟩
    · simp [Value.cells] at hcs
      obtain ⟨rfl, rfl, rfl⟩ := hcs
      exact ⟨[], .inl ⟨rfl, rfl, rfl, rfl⟩⟩
    · simp [Value.cells] at hcs
      obtain ⟨rfl, rfl, rfl⟩ := hcs
      exact ⟨zs, .inr ⟨_, rfl, hl, hm, by simpa using hz, hcell, hwz⟩⟩
  obtain ⟨a4, rfl, rfl, rfl, w4⟩ := open_int Try.underlying3 (hval 4 3 v4 rfl rfl) h4
  clear hA0 hval0
  refine (walk a0 a1 a2 len2 cap2 z2 a3 len3 cap3 z3 a4 W w0 w1 w2 w3 w4).mono fun e W' ⟨he, bel⟩ => ?_
  subst he
  exact ⟨_, rfl, _, _, _, [], _, [], hW', trodAll_mk1 (shut_bool Try.underlying4 _), (trodAll_cons_mk (Below.trod laidOut (by kernel_rfl) (of_decide_eq_true (by kernel_rfl)) k0 bel lt0) (trodAll_cons_mk (Below.trod laidOut (by kernel_rfl) (of_decide_eq_true (by kernel_rfl)) k1 bel lt1) (trodAll_cons_mk (Below.trod laidOut (by kernel_rfl) (of_decide_eq_true (by kernel_rfl)) k2 bel lt2) (trodAll_cons_mk (Below.trod laidOut (by kernel_rfl) (of_decide_eq_true (by kernel_rfl)) k3 bel lt3) (trodAll_cons_mk (Below.trod laidOut (by kernel_rfl) (of_decide_eq_true (by kernel_rfl)) k4 bel lt4) trodAll_mk0))))), rfl, bel.frame _, fun h => by cases h⟩

theorem over : Rows.rowsRoundRow.holds Try.pinned (OpenSpec.ofChange Rows.rowsRoundSpec) :=
  OpenClaim.holds_of_wide 5 Try.f5 rfl rfl rfl rfl rfl rfl rfl ⟨rfl, rfl, rfl, rfl, rfl⟩ rfl rfl rfl rfl rfl (by kernel_rfl) Try.func5 (by kernel_rfl)
    (of_decide_eq_true (by kernel_rfl)) (by unfold Func.isWrapper; first | (rw [if_pos (by decide +kernel)]; kernel_rfl) | (rw [if_neg (by decide +kernel)]; exact ⟨rfl, rfl⟩))
    (fun os started H enc _ => lifted os started H enc)

/-- THE STATEMENT -/
theorem rowsRound_holds : Rows.RowsRoundSaid := over
#print axioms rowsRound_holds
end Go.Proofs.Ytlobnipeplnodaa.rowsRound
