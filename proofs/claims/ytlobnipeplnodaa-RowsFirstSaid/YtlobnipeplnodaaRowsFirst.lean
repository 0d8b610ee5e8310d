/-
  RowsFirst: for every input the law answers true: a job is placed in the first row that has room, at the least nodes there. No conditions.
  (The frame behind the walk is the guide's shell, at these parameters.)
-/
import Derived.Test.YtlobnipeplnodaaRows
import Derived.WalkKit
import Derived.Test.YtlobnipeplnodaaRowB
import Derived.ProofKit
import Derived.Deep.Cut
import Derived.Deep.CutRange
import Derived.Deep.CutBlock
import Derived.Deep.Grids
import Derived.OpenShut
import Derived.ShutString
import Derived.ChangeOld
import Derived.Below
namespace Go.Proofs.Ytlobnipeplnodaa.rowsFirst
open Go.ChangeShapes Go.WideShapes Go.ChangeAt Go.RowKit
open Go.ChangeMaps (open_string shut_string)
set_option linter.unusedVariables false

theorem own : ownKnob Try.prog.godebug = none := by kernel_rfl
theorem laidOut : laidOutB Try.prog = true := by kernel_rfl

theorem first_count (p : Nat → Bool) (k last : Nat) : ∀ n, ((List.range n).filter p)[k]? = some last → ((List.range (last + 1)).filter p).length = k + 1 ∧ last < n
  | 0, h => by simp at h
  | n + 1, h => by
    by_cases hlt : k < ((List.range n).filter p).length
    · have h2 : ((List.range n).filter p)[k]? = some last := by
        rw [List.range_succ, List.filter_append, List.getElem?_append_left hlt] at h
        exact h
      obtain ⟨h3, h4⟩ := first_count p k last n h2
      exact ⟨h3, by omega⟩
    · rw [List.range_succ, List.filter_append, List.getElem?_append_right (by omega)] at h
      cases hp : p n with
      | false => simp [hp] at h
      | true =>
        rw [List.filter_cons_of_pos (by simpa using hp), List.filter_nil] at h
        have h5 : k - ((List.range n).filter p).length = 0 := by
          have := (List.getElem?_eq_some_iff.1 h).1
          simp at this
          omega
        rw [h5] at h
        have h6 : n = last := Option.some.inj h
        subst h6
        refine ⟨?_, by omega⟩
        rw [List.range_succ, List.filter_append, List.length_append]
        simp [hp]
        omega

set_option maxRecDepth 100000 in
set_option maxHeartbeats 8000000 in
theorem walk (a0 : Int) (a1 : Int) (a2 : Option Addr) (len2 cap2 : Nat) (z2 : List Int) (a3 : Option Addr) (len3 cap3 : Nat) (z3 : List Int) (a4 : Int) (w : World) (w0 : (Lit.int .u8 a0).wf = true) (w1 : (Lit.int .u8 a1).wf = true) (w2 : IsRow .u8 w a2 len2 cap2 z2) (w3 : IsRow .u8 w a3 len3 cap3 z3) (w4 : (Lit.int .u8 a4).wf = true) :
    Calls Try.prog 8 #[.int .u8 a0, .int .u8 a1, .slice a2 len2 cap2, .slice a3 len3 cap3, .int .u8 a4] w fun e w' => e = .returned (.bool true) ∧ Below w.heap.size w w' := by
  obtain ⟨ws, hwl, hwr, hw8⟩ := w2.rdn
  obtain ⟨gs, hgl, hgr, hg8⟩ := w3.rdn
  have bd0 := bounds_u8 w0
  have bd1 := bounds_u8 w1
  have bd4 := bounds_u8 w4
  obtain ⟨r0, rfl⟩ := Int.eq_ofNat_of_zero_le (show 0 ≤ a0 by omega)
  obtain ⟨n0, rfl⟩ := Int.eq_ofNat_of_zero_le (show 0 ≤ a1 by omega)
  obtain ⟨k0, rfl⟩ := Int.eq_ofNat_of_zero_le (show 0 ≤ a4 by omega)
  have HWR := hid hwr
  have HGR := hid hgr
  have HW8 := hid hw8
  have HG8 := hid hg8
  obtain ⟨q, hq⟩ : ∃ q, q = k0 % 8 := ⟨_, rfl⟩
  obtain ⟨k, hk⟩ : ∃ k, k = q + 1 := ⟨_, rfl⟩
  have e1 : (k0 : Int) % 8 = (q : Int) := by omega
  have e2 : (k0 : Int).tmod 8 = (q : Int) := by rw [Int.tmod_eq_emod_of_nonneg (by omega)]; exact e1
  have e3 : 1 + (q : Int) = (k : Int) := by omega
  have e4 : (q : Int) < 8 := by omega
  have HK := hid hk
  have HR0 := hid (show r0 < 256 by omega)
  have HN0 := hid (show n0 < 256 by omega)
  clear w0 w1 w2 w3 w4 hwl hwr hw8 hgl hgr hg8 bd0 bd1 bd4 hq hk
  go_enter Try.func8, Try.ntmps8
  go_wp2_with fail
  refine (awake12_any w).mono ?_
  rintro e wa ⟨rfl, hba⟩
  have HBA := hid hba
  have hsa := hba.size
  clear hba
  go_wp2_with fail
  refine (build_any wa r0 n0 HR0.out HN0.out (.slice a2 len2 cap2) (.slice a3 len3 cap3) ws gs (HWR.out.all HBA.out) (HGR.out.all HBA.out) HW8.out HG8.out).mono ?_
  rintro e wb ⟨b, kk, rfl, hbb, m, hm, hbu, hmr, hmn, hBb, -⟩
  have HM := hid hm
  have HBU := hid hbu
  have HBB := hid hBb
  have hsb := hBb.size
  have hlt := hm.lt
  clear hm hbu hmr hmn hBb
  go_wp2_with fail
  refine (copy_any wb b m HM.out).mono ?_
  rintro e wc ⟨rfl, hmc, hBc⟩
  have HMC := hid hmc
  have HBC := hid hBc
  have hsc := hmc.lt
  have HM2 := hid (HM.out.below hBc hlt)
  have HWN := hid (show m.where 2000 = none from where_none_of fun i hi => by
    apply Classical.byContradiction
    intro hne
    have := (HBU.out.wide 2000 i (by omega) hi hne).1
    omega)
  have HKP := hid (show Below w.heap.size w wc from HBA.out.trans ((HBB.out.mono (by omega)).trans (hBc.mono (by omega))))
  clear hmc hBc
  have hk1 : 1 ≤ k := by have := HK.out; omega
  by_cases hwide : m.n < k
  · have HX := hid (show (m.n : Int) < (k : Int) by omega)
    have HK1 := hid (show (1 : Int) ≤ (k : Int) by omega)
    clear hwide hk1
    go_wp2_with fail
    refine (place_wide wc wb.heap.size 2000 k m HMC.out (by omega) HK1.out HWN.out HX.out).mono ?_
    rintro e wd ⟨rfl, hd⟩
    have HD := hid hd
    clear hd
    go_wp2
    go_ret
    exact ⟨rfl, HKP.out.trans (HD.out.mono (by omega))⟩
  cases hroom : m.room k 0 m.r with
  | none =>
    have HX := hid (show k ≤ m.n by omega)
    have HK1 := hid hk1
    have HRO := hid hroom
    clear hwide hroom hk1
    go_wp2_with fail
    refine (place_full wc wb.heap.size 2000 k m HMC.out (by omega) HK1.out HWN.out HX.out HRO.out).mono ?_
    rintro e wd ⟨rfl, hd⟩
    have HD := hid hd
    clear hd
    go_wp2
    go_ret
    exact ⟨rfl, HKP.out.trans (HD.out.mono (by omega))⟩
  | some row =>
    have HX := hid (show k ≤ m.n by omega)
    have HK1 := hid hk1
    have HRO := hid hroom
    obtain ⟨-, hr2, hrk, hbef⟩ := Mx.room_some _ _ _ hroom
    have hrow : row < m.r := by omega
    have HRK := hid hrk
    have HBE := hid hbef
    have hr8 := HM.out.r8
    have hn16 := HM.out.n16
    clear hwide hroom hk1 hr2 hrk hbef
    go_wp2_with fail
    refine (place_yes wc wb.heap.size 2000 k row m HMC.out (by omega) (by omega) HK1.out HWN.out HX.out HRO.out).mono ?_
    rintro e wd ⟨v, rfl, hv, hmd, hkd⟩
    have HKD := hid hkd
    have hsd := hkd.size
    have HMD := hid (HM2.out.block (hkd.block b (by omega) (by omega)))
    have HBD := hid (show Below w.heap.size w wd from HKP.out.trans (hkd.below (by omega) (fun i hi => by omega)))
    have HV := hid (RdV.of_own hv)
    obtain ⟨last, hlast⟩ : ∃ last, ((m.free row).take k)[q]? = some last := ⟨_, List.getElem?_eq_getElem (by rw [List.length_take]; have := HRK.out; have := HK.out; omega)⟩
    obtain ⟨ad, cp, rfl, hcl, hcm⟩ := (RdV.of_own hv).len
    have hlen : ((m.free row).take k).length = k := by rw [List.length_take]; have := HRK.out; omega
    rw [List.length_map, hlen] at hcl HV
    obtain ⟨-, g, o, rfl, hcell⟩ := HV.out.at q (iv last) (by rw [List.getElem?_map, hlast]; rfl)
    have hcell' : wd.cell? ⟨g, o + q, none⟩ = some (.int .i64 (last : Nat)) := hcell
    rw [List.getElem?_take, if_pos (by have := HK.out; omega)] at hlast
    obtain ⟨hcount, hln⟩ := first_count _ _ _ _ hlast
    rw [List.length_map, hlen]
    have HC := hid hcount
    have hgb := World.block_lt_of_cell? _ _ hcell'
    have HCE := hid hcell'
    clear hmd hkd hv hcell hcell' hlast hcount hlen
    have e5 : (k : Int) - 1 = (q : Int) := by omega
    have e6 : (row : Int) < 8 := by omega
    have e7 : (last : Int) < 16 := by omega
    go_wp2_with fail
    go_loopw [48] (fun i wr => ∃ c : Nat, c ≤ row ∧ i = .int .i64 c ∧ Below wd.heap.size wd wr) (fun i _ => row - (intOf i).toNat)
    case atStart => exact ⟨0, Nat.zero_le _, rfl, Below.refl _ _⟩
    case round =>
      obtain ⟨c, hc, rfl, hB⟩ := hrel
      have HB := hid hB
      have hsr := hB.size
      have HMR := hid (HMD.out.below hB HMD.out.lt)
      have hce2 := (hB.cell (p := ⟨g, o + q, none⟩) hgb).trans HCE.out
      have HCE2 := hid hce2
      clear hB hce2
      by_cases hcr : c < row
      · have hci : (c : Int) < (row : Int) := by omega
        have hfl := HBE.out c (by omega) hcr
        go_wp2_with fail
        refine (free_any wr b c m HMR.out (by omega)).mono ?_
        rintro e w6 ⟨rfl, hb6⟩
        have HB6 := hid hb6
        generalize (m.free c).length = fl at *
        have d1 : decide (k ≤ fl) = false := by simp; omega
        have d2 : decide ((k : Int) ≤ (fl : Int)) = false := by simp; omega
        clear hb6 hfl
        go_wp2
        go_roundw
        case rel => exact ⟨c + 1, hcr, by go_num, HB.out.trans (HB6.out.mono hsr)⟩
        case measure => simp [intOf]; omega
      · have hci : ¬ (c : Int) < (row : Int) := by omega
        have hce3 := HCE2.out
        clear hcr
        go_wp2_with fail
        obtain ⟨wq, hwq⟩ : ∃ wq, wq = wr := ⟨_, rfl⟩
        subst hwq
        go_loopw [20, 65] (fun f i wr => ∃ x : Nat, x ≤ last + 1 ∧ i = .int .i64 x ∧ f = .int .i64 (((List.range x).filter fun k => m.c (16 * row + k) == 0 && !m.d k).length : Nat) ∧ wr = wq) (fun _ i _ => last + 1 - (intOf i).toNat)
        case atStart => exact ⟨0, Nat.zero_le _, rfl, rfl, rfl⟩
        case round =>
          obtain ⟨x, hx, rfl, rfl, hwr⟩ := hrel
          have HWQ := hid hwr
          subst hwr
          have hfx := List.length_filter_le (fun k => m.c (16 * row + k) == 0 && !m.d k) (List.range x)
          rw [List.length_range] at hfx
          by_cases hxl : x < last + 1
          · have hxi : (x : Int) < (last : Int) + 1 := by omega
            have hup := HBU.out.up x
            go_wp2_with fail
            refine (at_yes wr b m row x HMR.out hrow (by omega)).mono ?_
            rintro e w7 ⟨rfl, rfl⟩
            by_cases hz : m.c (16 * row + x) = 0
            · have HF := hid (show ((List.range (x + 1)).filter (fun k => m.c (16 * row + k) == 0 && !m.d k)).length = ((List.range x).filter (fun k => m.c (16 * row + k) == 0 && !m.d k)).length + 1 by rw [upto_hit x _ (by simp [hz, hup]), List.length_append, List.length_singleton])
              rw [hz]
              generalize ((List.range x).filter fun k => m.c (16 * row + k) == 0 && !m.d k).length = cn at *
              clear hz hup
              go_wp2
              go_roundw
              case rel => exact ⟨x + 1, by omega, by go_num, by rw [HF.out]; go_num, trivial⟩
              case measure => simp [intOf]; omega
            · have HF := hid (show (List.range (x + 1)).filter (fun k => m.c (16 * row + k) == 0 && !m.d k) = (List.range x).filter (fun k => m.c (16 * row + k) == 0 && !m.d k) from upto_miss x _ (by simp [hz]))
              generalize m.c (16 * row + x) = cx at *
              have d1 : ((cx : Int) == 0) = false := by simp; omega
              clear hz hup
              go_wp2
              go_roundw
              case rel => exact ⟨x + 1, by omega, by go_num, by rw [HF.out], trivial⟩
              case measure => simp [intOf]; omega
          · have ex : x = last + 1 := by omega
            have hxi : ¬ (x : Int) < (last : Int) + 1 := by omega
            have hcn : ((List.range x).filter fun k => m.c (16 * row + k) == 0 && !m.d k).length = k := by rw [ex, HK.out]; exact HC.out
            rw [hcn]
            clear hxl ex hcn hfx
            go_wp2
            go_ret
            exact ⟨by simp, HBD.out.trans (HB.out.mono (by omega))⟩

/-! ### THE ROW's STEP -/
set_option maxRecDepth 100000 in
theorem lifted (os : Os) (started : os.Started) (H : Type) (enc : TypeId × Value → H) :
    ReturnsInHanded {} Try.checked os 8 .any (Rows.rowsFirstSpec.pre6 enc Try.prog Try.f8 Rows.rowsFirstRow.domain false) (Rows.rowsFirstSpec.post enc Try.prog Try.f8 false true false false) := by
  refine returnsInHanded_of_change (C := Try.checked) own started (by kernel_rfl) Try.func8
    (ChangeSpec.witness6 (enc := enc) (C := Try.checked) false ⟨#[], #[.int .u8 0, .int .u8 0, .slice none 0 0, .slice none 0 0, .int .u8 0], []⟩ 8 (by kernel_rfl) (by kernel_rfl) (by kernel_rfl) (by kernel_rfl)) ?_
  intro W base args ds gs before hval0 hW hcnd _
  have hval : ∀ (j : Nat) t v, Try.f8.params[j]? = some t → args[j]? = some v → Value.okWide Try.prog W .any base t v := hval0
  have hW' := hW
  obtain ⟨p, q, hA0, hV, rfl, hfz, hnd⟩ := hW
  have hA : DataW.TrodAll enc Try.prog W 0 (fun _ => true) true Try.f8.params.toList args.toList ds p := hA0
  rw [Try.params8] at hA hval
  obtain ⟨v0, vs0, d0, ds0, p0, q0, hargs, rfl, rfl, h0, r0⟩ := trodAll_cons hA
  obtain ⟨v1, vs1, d1, ds1, p1, q1, rfl, rfl, rfl, h1, r1⟩ := trodAll_cons r0
  obtain ⟨v2, vs2, d2, ds2, p2, q2, rfl, rfl, rfl, h2, r2⟩ := trodAll_cons r1
  obtain ⟨v3, vs3, d3, ds3, p3, q3, rfl, rfl, rfl, h3, r3⟩ := trodAll_cons r2
  obtain ⟨v4, vs4, d4, ds4, p4, q4, rfl, rfl, rfl, h4, r4⟩ := trodAll_cons r3
  obtain ⟨rfl, rfl, rfl⟩ := trodAll_nil r4
  obtain rfl : args = #[v0, v1, v2, v3, v4] := by cases args; simp_all
  obtain ⟨rfl, rfl⟩ := trodVars_none hV
  have k0 := h0
  have lt0 : ∀ x ∈ p0, x.block < W.heap.size := by obtain ⟨m, hm⟩ := k0; exact DataW.trod_lt m _ _ _ hm
  have k1 := h1
  have lt1 : ∀ x ∈ p1, x.block < W.heap.size := by obtain ⟨m, hm⟩ := k1; exact DataW.trod_lt m _ _ _ hm
  have k2 := h2
  have lt2 : ∀ x ∈ p2, x.block < W.heap.size := by obtain ⟨m, hm⟩ := k2; exact DataW.trod_lt m _ _ _ hm
  have k3 := h3
  have lt3 : ∀ x ∈ p3, x.block < W.heap.size := by obtain ⟨m, hm⟩ := k3; exact DataW.trod_lt m _ _ _ hm
  have k4 := h4
  have lt4 : ∀ x ∈ p4, x.block < W.heap.size := by obtain ⟨m, hm⟩ := k4; exact DataW.trod_lt m _ _ _ hm
  obtain ⟨a0, rfl, rfl, rfl, w0⟩ := open_int Try.underlying5 (hval 0 5 v0 rfl rfl) h0
  obtain ⟨a1, rfl, rfl, rfl, w1⟩ := open_int Try.underlying5 (hval 1 5 v1 rfl rfl) h1
  obtain ⟨a2, len2, cap2, rfl⟩ := okWide_slice Try.underlying54 (hval 2 54 v2 rfl rfl)
  obtain ⟨z2, w2⟩ : ∃ zs, IsRow .u8 W a2 len2 cap2 zs := by
    obtain ⟨fuel, hf⟩ := h2
    rcases open_ints Try.underlying54 Try.underlying5 (by kernel_rfl) hf with ⟨hcs, _⟩ | ⟨x, l, c, zs, hcs, _, hl, hm, hz, _, hcell, hwz⟩
    · simp [Value.cells] at hcs
      obtain ⟨rfl, rfl, rfl⟩ := hcs
      exact ⟨[], .inl ⟨rfl, rfl, rfl, rfl⟩⟩
    · simp [Value.cells] at hcs
      obtain ⟨rfl, rfl, rfl⟩ := hcs
      exact ⟨zs, .inr ⟨_, rfl, hl, hm, by simpa using hz, hcell, hwz⟩⟩
  obtain ⟨a3, len3, cap3, rfl⟩ := okWide_slice Try.underlying54 (hval 3 54 v3 rfl rfl)
  obtain ⟨z3, w3⟩ : ∃ zs, IsRow .u8 W a3 len3 cap3 zs := by
    obtain ⟨fuel, hf⟩ := h3
    rcases open_ints Try.underlying54 Try.underlying5 (by kernel_rfl) hf with ⟨hcs, _⟩ | ⟨x, l, c, zs, hcs, _, hl, hm, hz, _, hcell, hwz⟩
    · simp [Value.cells] at hcs
      obtain ⟨rfl, rfl, rfl⟩ := hcs
      exact ⟨[], .inl ⟨rfl, rfl, rfl, rfl⟩⟩
    · simp [Value.cells] at hcs
      obtain ⟨rfl, rfl, rfl⟩ := hcs
      exact ⟨zs, .inr ⟨_, rfl, hl, hm, by simpa using hz, hcell, hwz⟩⟩
  obtain ⟨a4, rfl, rfl, rfl, w4⟩ := open_int Try.underlying5 (hval 4 5 v4 rfl rfl) h4
  clear hA0 hval0
  refine (walk a0 a1 a2 len2 cap2 z2 a3 len3 cap3 z3 a4 W w0 w1 w2 w3 w4).mono fun e W' ⟨he, bel⟩ => ?_
  subst he
  exact ⟨_, rfl, _, _, _, [], _, [], hW', trodAll_mk1 (shut_bool Try.underlying4 _), (trodAll_cons_mk (Below.trod laidOut (by kernel_rfl) (of_decide_eq_true (by kernel_rfl)) k0 bel lt0) (trodAll_cons_mk (Below.trod laidOut (by kernel_rfl) (of_decide_eq_true (by kernel_rfl)) k1 bel lt1) (trodAll_cons_mk (Below.trod laidOut (by kernel_rfl) (of_decide_eq_true (by kernel_rfl)) k2 bel lt2) (trodAll_cons_mk (Below.trod laidOut (by kernel_rfl) (of_decide_eq_true (by kernel_rfl)) k3 bel lt3) (trodAll_cons_mk (Below.trod laidOut (by kernel_rfl) (of_decide_eq_true (by kernel_rfl)) k4 bel lt4) trodAll_mk0))))), rfl, bel.frame _, fun h => by cases h⟩

theorem over : Rows.rowsFirstRow.holds Try.pinned (OpenSpec.ofChange Rows.rowsFirstSpec) :=
  OpenClaim.holds_of_wide 8 Try.f8 rfl rfl rfl rfl rfl rfl rfl ⟨rfl, rfl, rfl, rfl, rfl⟩ rfl rfl rfl rfl rfl (by kernel_rfl) Try.func8 (by kernel_rfl)
    (of_decide_eq_true (by kernel_rfl)) (by unfold Func.isWrapper; first | (rw [if_pos (by decide +kernel)]; kernel_rfl) | (rw [if_neg (by decide +kernel)]; exact ⟨rfl, rfl⟩))
    (fun os started H enc _ => lifted os started H enc)

/-- THE STATEMENT -/
theorem rowsFirst_holds : Rows.RowsFirstSaid := over
#print axioms rowsFirst_holds
end Go.Proofs.Ytlobnipeplnodaa.rowsFirst
