/-
  ShuffleMoves: the moves are all that is other: done one by one they lead from the one matrix to the other; for every input.
  (The frame behind the walk is the guide's shell, at these parameters.)
-/
import Derived.Test.YtnffmijanikjgaaRows
import Derived.WalkKit
import Derived.Test.YtnffmijanikjgaaBldB
import Derived.Test.YtnffmijanikjgaaShfM
import Derived.ProofKit
import Derived.Deep.Cut
import Derived.Deep.CutRange
import Derived.Deep.CutBlock
import Derived.Deep.Grids
import Derived.OpenShut
import Derived.ShutString
import Derived.ChangeOld
import Derived.Below
namespace Go.Proofs.Ytnffmijanikjgaa.shuffleMoves
open Go.ChangeShapes Go.WideShapes Go.ChangeAt Go.RowKit
open Go.ChangeMaps (open_string shut_string)
set_option linter.unusedVariables false

theorem own : ownKnob Try.prog.godebug = none := by kernel_rfl
theorem laidOut : laidOutB Try.prog = true := by kernel_rfl

theorem mv_size : (Try.prog.info? 76).map (·.size) = some 3 := by kernel_rfl

abbrev mvArr (j f t : Nat) : Array Value := #[.int .u32 (j : Nat), .int .i64 (f : Nat), .int .i64 (t : Nat)]

section
variable {w : World} {ops : Array Oper} {rest : List Oper} {o : Oper} {a : Act} {Q : Exit → Act → World → Prop}
theorem mv_fresh (hgd : o.guard = none) (x y : Operand) (ho : o.op = .store 76 x y)
    (W : World) (cs : Array Value) (hx : a.eval x = .pointer (some ⟨W.heap.size, 0, none⟩)) (hy : a.eval y = .agg cs) (hs : cs.size = 3) (h1 : cs.all (·.oneCell') = true)
    (h : ∀ w' : World, w'.heap[W.heap.size]? = some (.cells cs 76 (0, 0)) → Below W.heap.size W w' → wpList Try.prog ops Q rest (a.put o.dst undef) w') :
    wpList Try.prog ops Q (o :: rest) a (W.alloc (.cells #[.int .u32 0, .int .i64 0, .int .i64 0] 76)) := by
  have e := heap_alloc_new W (.cells #[.int .u32 0, .int .i64 0, .int .i64 0] 76)
  refine wpList_store_row hgd _ x y ho W.heap.size cs hx hy _ _ e (by rw [mv_size, hs]) (by rw [hs]; rfl) h1 ?_
  refine h _ (setRow_heap (W.alloc _) W.heap.size _ _ _ _ e) ?_
  exact ((Below.refl _ _).alloc (Nat.le_refl _) _).trans ⟨rfl, rfl, rfl, by simp, fun k hk => setRow_other _ _ _ _ (by omega)⟩
end

/-- The k-th move's cells. -/
theorem mvcs_at {l : List (Nat × Nat × Nat)} {k j f t : Nat} (h : l[k]? = some (j, f, t)) (i : Nat) (v : Value) (hv : (mvArr j f t).toList[i]? = some v) : (mvcs l)[k * 3 + i]? = some v := by
  obtain ⟨hlt, hx⟩ := List.getElem?_eq_some_iff.1 h
  have hs : l = l.take k ++ (j, f, t) :: l.drop (k + 1) := by
    rw [← drop_cons' h, List.take_append_drop]
  have hi : i < 3 := by
    have := (List.getElem?_eq_some_iff.1 hv).1
    simpa using this
  rw [hs, mvcs_append, List.getElem?_append_right (by rw [mvcs_len, List.length_take]; omega), mvcs_len, List.length_take, show k * 3 + i - min k l.length * 3 = i by rw [Nat.min_eq_left (by omega)]; omega]
  show (mvc (j, f, t) ++ mvcs (l.drop (k + 1)))[i]? = some v
  rw [List.getElem?_append_left (by show i < 3; exact hi)]
  exact hv

/-- The first moves, and what is left. -/
theorem Trace.at {m m' : Mx} {l : List (Nat × Nat × Nat)} {k j f t : Nat} {mk : Mx} (h : Trace mk (l.drop k) m') (hk : l[k]? = some (j, f, t)) : CanGo mk j f t ∧ Trace (mk.mv j f t) (l.drop (k + 1)) m' := by
  rw [drop_cons' hk] at h
  cases h with
  | cons hc ht => exact ⟨hc, ht⟩

theorem Trace.end {mk m' : Mx} {l : List (Nat × Nat × Nat)} (h : Trace mk (l.drop l.length) m') : mk = m' := by
  rw [List.drop_length] at h
  cases h
  rfl

theorem trace_one {m m' : Mx} {l : List (Nat × Nat × Nat)} (h : Trace m l m') (hn : m.n ≤ 16) (ho : One m) : One m' := (h.kept hn ho).one

theorem jobs_where {m : Mx} (ho : One m) {j : Nat} (hj : j ∈ m.jobs) : ∃ i, m.where j = some i := by
  obtain ⟨i, hi, h⟩ := Mx.jobs_mem.1 hj
  exact ⟨i, (ho.row_where hi h).1⟩

theorem jobs_u32 {w : World} {b : Nat} {m : Mx} (h : MxAt w b m) {j : Nat} (hj : j ∈ m.jobs) : j < 4294967296 := by
  obtain ⟨i, hi, h2⟩ := Mx.jobs_mem.1 hj
  obtain ⟨k, _, _, h3⟩ := Mx.row_mem.1 h2
  rw [← h3]; exact h.c32 _

set_option maxRecDepth 100000 in
set_option maxHeartbeats 8000000 in
theorem walk (a0 : Int) (a1 : Int) (a2 : Option Addr) (len2 cap2 : Nat) (a3 : Bool) (w : World) (w0 : (Lit.int .u8 a0).wf = true) (w1 : (Lit.int .u8 a1).wf = true) (w2 : IsStands w a2 len2 cap2) :
    Calls Try.prog 7 #[.int .u8 a0, .int .u8 a1, .slice a2 len2 cap2, .bool a3] w fun e w' => e = .returned (.bool true) ∧ Below w.heap.size w w' := by
  have bd0 := bounds_u8 w0
  have bd1 := bounds_u8 w1
  obtain ⟨r0, rfl⟩ := Int.eq_ofNat_of_zero_le (show 0 ≤ a0 by omega)
  obtain ⟨n0, rfl⟩ := Int.eq_ofNat_of_zero_le (show 0 ≤ a1 by omega)
  have HS := hid w2
  have HR0 := hid (show r0 < 256 by omega)
  have HN0 := hid (show n0 < 256 by omega)
  clear w0 w1 w2 bd0 bd1
  go_enter Try.func7, Try.ntmps7
  go_wp2_with fail
  refine (awake13_any w).mono ?_
  rintro e wa ⟨rfl, hba⟩
  have HBA := hid hba
  have hsa := hba.size
  clear hba
  go_wp2_with fail
  refine (build13_any wa r0 n0 0 HR0.out HN0.out (by decide) a2 len2 cap2 (HS.out.below HBA.out)).mono ?_
  rintro e wb ⟨lo, G, m, rfl, hX⟩
  have HX := hid hX
  have hlb := hX.at_.lt
  have HSB := hid (show wa.heap.size ≤ wb.heap.size from hX.bel.size)
  have hn16 := hX.at_.n16
  have HB0 := hid (show Below w.heap.size w wb from HBA.out.trans (hX.bel.mono hsa))
  have HONE := hid hX.one
  clear hX
  go_wp2_with fail
  refine (repack_any wb wa.heap.size m HX.out.at_ HONE.out).mono ?_
  rintro e w2 ⟨v1, rfl, hv2, hm2, hb2⟩
  have HB2 := hid (HB0.out.trans (hb2.mono HB0.out.size))
  have hs2 := hb2.size
  have hl2 := hm2.lt
  have HBQ := hid (show wa.heap.size < wb.heap.size from hlb)
  cases a3 with
  | false =>
    have hmm := HX.out.at_.below hb2 hlb
    have hmc := hm2
    have hvc := hv2
    have hkc := HB2.out
    obtain ⟨bc, hbc⟩ : ∃ bc, bc = wb.heap.size := ⟨_, rfl⟩
    obtain ⟨bq, hbq⟩ : ∃ bc, bc = wb.heap.size := ⟨_, rfl⟩
    rw [← hbc] at hmc ⊢
    rw [← hbq] at hvc
    have HBC := hid (show bc ≠ wa.heap.size by omega)
    clear HBQ
    have HBQ := hid (show wa.heap.size < bq by omega)
    have hlb2 : wa.heap.size < w2.heap.size := by omega
    clear hm2 hv2 hb2 hbc hbq hs2 hl2
    have hway := repack_way hn16 HONE.out
    have HTR := hid hway.tr
    have HMC := hid hmc
    have HVC := hid hvc
    have HKC := hid hkc
    have HMM := hid hmm
    generalize m.repack.1 = mc at *
    generalize m.repack.2 = ml at *
    obtain ⟨av, cv, rfl, hcv1, hcv2⟩ := owns_slice hvc
    clear hway hmc hvc hkc hmm
    go_wp2_with fail
    go_loopw [48] (fun i wr => ∃ (k : Nat) (mk : Mx), k ≤ ml.length ∧ i = .int .i64 k ∧ Trace mk (ml.drop k) mc ∧ One mk ∧ mk.n = m.n ∧ MxAt wr wa.heap.size mk ∧ MxAt wr bc mc ∧ wr.ownsRow bq 76 3 (.slice av ml.length cv) ml.length (mvcs ml) ∧ Below w.heap.size w wr) (fun i _ => ml.length - (intOf i).toNat)
    case atStart => exact ⟨0, m, Nat.zero_le _, rfl, HTR.out, HONE.out, rfl, HMM.out, HMC.out, HVC.out, HKC.out⟩
    case round =>
      obtain ⟨k, mk, hk, rfl, htr, ho, hnk, hm1, hm2, hv, hB⟩ := hrel
      have HT := hid htr
      have HO := hid ho
      have HNK := hid hnk
      have HM1 := hid hm1
      have HM2 := hid hm2
      have HV := hid hv
      have HK := hid hB
      have hs0 := hB.size
      have hl1 := hm1.lt
      have hl2 := hm2.lt
      clear htr ho hnk hm1 hm2 hv hB
      by_cases hlt : k < ml.length
      · obtain ⟨⟨j, f, t⟩, hx⟩ : ∃ x, ml[k]? = some x := ⟨_, List.getElem?_eq_getElem hlt⟩
        have hki : (k : Int) < (ml.length : Int) := by omega
        have hstep := Trace.at (m := mk) HT.out hx
        have HC := hid hstep.1
        have HT2 := hid hstep.2
        obtain ⟨g, hav⟩ : ∃ g, av = some ⟨g, 0, none⟩ := by
          rcases owns_shape HV.out with ⟨_, h0⟩ | ⟨g, c, e, _⟩
          · omega
          · simp only [Value.slice.injEq] at e
            exact ⟨g, e.1⟩
        have hrg : wr.rangeAt g (0 + k * 3) (mvArr j f t).toList := fun i v hv => by
          have h1 := mvcs_at hx i v hv
          subst hav
          have := World.ownsRow.cells HV.out (g := g) rfl _ v h1
          rw [Addr.add_lit] at this
          rw [show 0 + k * 3 + i = 0 + (k * 3 + i) by omega]; exact this
        rw [Nat.zero_add] at hrg
        have HRG := hid hrg
        have HAV := hid hav
        clear hstep hrg hx
        subst hav
        go_upto_region 10 with (first
          | (refine wpList_load_mid rfl 76 (.tmp 50) rfl g (k * 3) rfl _ _ HRG.out Try.underlying76 rfl (by rw [mv_size]; rfl) ?_)
          | (refine mv_fresh rfl (.tmp 14) (.tmp 51) rfl wr (mvArr j f t) rfl rfl rfl (by simp [Value.oneCell']) ?_; intro wo hgo hbo; have HGO := hid hgo; have HBO := hid hbo; clear hgo hbo)
          | fail)
        obtain ⟨gs, hgs⟩ : ∃ g, g = wr.heap.size := ⟨_, rfl⟩
        rw [← hgs] at HGO
        rw [← hgs]
        have HGS := hid hgs
        have hso := HBO.out.size
        have HSG := hid (show gs < wo.heap.size from (Array.getElem?_eq_some_iff.1 HGO.out).1)
        have HMO := hid (HM1.out.below HBO.out hl1)
        have HMP := hid (HM2.out.below HBO.out hl2)
        have HVO := hid (owns_below HV.out HBO.out)
        have c0 : wo.cell? ⟨gs, 0, none⟩ = some (.int .u32 (j : Nat)) := (cell_of_row _ _ _ _ _ _ HGO.out).trans rfl
        clear hgs HRG
        go_wp2_with fail
        refine (of_some wo wa.heap.size mk j f HMO.out HC.out.wh).mono ?_
        rintro e w5 ⟨v5, rfl, hv5, -, hb5⟩
        have HV5 := hid hv5
        have HB5 := hid hb5
        have hs5 := hb5.size
        have HG5 := hid ((hb5.block gs HSG.out).trans HGO.out)
        have d0 : w5.cell? ⟨gs, 0, none⟩ = some (.int .u32 (j : Nat)) := (cell_of_row _ _ _ _ _ _ HG5.out).trans rfl
        have d1 : w5.cell? ⟨gs, 1, none⟩ = some (.int .i64 (f : Nat)) := (cell_of_row _ _ _ _ _ _ HG5.out).trans rfl
        have HM5 := hid (HMO.out.below hb5 (by omega))
        have HC5 := hid (HMP.out.below hb5 (by omega))
        have HL5 := hid (owns_below HVO.out hb5)
        have hff : ((f : Int) != (f : Int)) = false := by simp
        clear hv5 hb5 c0
        have HGA := hid (show gs ≠ wa.heap.size by have := HGS.out; omega)
        have HRM := hid (remove_yes w5 wa.heap.size j f mk HM5.out HC.out.wh)
        go_wp2_with (first
          | (go_at_call 19; refine HRM.out.mono ?_; rintro e w6 ⟨rfl, hm6, hk6⟩; have HM6 := hid hm6; have HK6 := hid hk6; have hs6 := hk6.size; have HG6 := hid ((hk6.block gs (by have := HSG.out; omega) HGA.out).trans HG5.out); have f0 : w6.cell? ⟨gs, 0, none⟩ = some (.int .u32 (j : Nat)) := (cell_of_row _ _ _ _ _ _ HG6.out).trans rfl; have f2 : w6.cell? ⟨gs, 2, none⟩ = some (.int .i64 (t : Nat)) := (cell_of_row _ _ _ _ _ _ HG6.out).trans rfl; have HN6 := hid (owns_by HV5.out fun q hq => hk6.block q (World.ownsRow.lt HV5.out q hq).2 (by have := (World.ownsRow.lt HV5.out q hq).1; omega)); clear hm6 hk6)
          | (go_at_call 17; refine (put_yes w6 wa.heap.size j t v5 (mk.own f j) (mk.stand f (mk.own f j) 0) HM6.out (RdV.of_own HN6.out) (Off.of_own HN6.out (by omega)) HC.out.j0 (HC.out.j32 HM5.out) (by rw [Mx.stand_r]; exact HC.out.tr) (by have := own_okl HC.out.own; unfold OkL at *; rw [Mx.stand_n]; exact this) (gone_where (by rw [HNK.out]; exact hn16) HO.out HC.out) (gone_fit (by rw [HNK.out]; exact hn16) HC.out)).mono ?_; rintro e w7 ⟨rfl, hm7, hk7⟩; have HM7 := hid (show MxAt w7 wa.heap.size (mk.mv j f t) from hm7); have HK7 := hid hk7; have hs7 := hk7.size; clear hm7 hk7)
          | fail)
        have hk57 := HK6.out.trans HK7.out
        have hmc7 : MxAt w7 bc mc := HC5.out.block (hk57.block bc (by omega) HBC.out)
        have hv7 := owns_by HL5.out fun q hq => hk57.block q (World.ownsRow.lt HL5.out q hq).2 (fun e => by have := (World.ownsRow.lt HL5.out q hq).1; have := HBQ.out; omega)
        have hb7 : Below w.heap.size w w7 := HK.out.trans ((HBO.out.mono hs0).trans ((HB5.out.mono (by omega)).trans (hk57.below (by omega) (fun i hi => by omega))))
        have HMC7 := hid hmc7
        have HV7 := hid hv7
        have HB7 := hid hb7
        have HO7 := hid (mv_one (by rw [HNK.out]; exact hn16) HO.out HC.out)
        clear hk57 hmc7 hv7 hb7
        go_roundw
        case rel => exact ⟨k + 1, mk.mv j f t, hlt, by go_num, HT2.out, HO7.out, (mv_n _ _ _ _).trans HNK.out, HM7.out, HMC7.out, HV7.out, HB7.out⟩
        case measure => simp [intOf]; omega
      · have e : k = ml.length := by omega
        have hki : ¬ (k : Int) < (ml.length : Int) := by omega
        have hend : mk = mc := Trace.end (l := ml) (by rw [← e]; exact HT.out)
        subst hend
        clear e hlt
        go_wp2_with fail
        refine (jobs_any wr wa.heap.size mk HM1.out).mono ?_
        rintro e w5 ⟨v5, rfl, hv5, hb5⟩
        have HR5 := hid (RdV.of_own hv5)
        have HB5 := hid (HK.out.trans (hb5.mono hs0))
        have HM5 := hid (HM1.out.below hb5 hl1)
        have HC5 := hid (HM2.out.below hb5 hl2)
        have HJW := hid (fun j (hj : j ∈ mk.jobs) => jobs_where HO.out hj)
        obtain ⟨a5, c5, rfl, hd1, hd2⟩ := owns_slice hv5
        clear hv5 hb5
        generalize mk.jobs = js at *
        go_wp2_with fail
        go_loopw [89] (fun i wr => ∃ q : Nat, q ≤ js.length ∧ i = .int .i64 q ∧ MxAt wr wa.heap.size mk ∧ MxAt wr bc mk ∧ RdV wr (.slice a5 js.length c5) (js.map uv) ∧ Below w.heap.size w wr) (fun i _ => js.length - (intOf i).toNat)
        case atStart => exact ⟨0, Nat.zero_le _, rfl, HM5.out, HC5.out, HR5.out, HB5.out⟩
        case round =>
          obtain ⟨q, hq, rfl, hm1, hm2, hr, hB⟩ := hrel
          have HM8 := hid hm1
          have HC8 := hid hm2
          have HR8 := hid hr
          have HB8 := hid hB
          have hs8 := hB.size
          have hl8 := hm1.lt
          have hl9 := hm2.lt
          clear hm1 hm2 hr hB
          by_cases hql : q < js.length
          · have hqi : (q : Int) < (js.length : Int) := by omega
            obtain ⟨j, hj⟩ : ∃ j, js[q]? = some j := ⟨_, List.getElem?_eq_getElem hql⟩
            obtain ⟨i0, hw⟩ := HJW.out j (List.mem_of_getElem? hj)
            have HW := hid hw
            obtain ⟨-, g, o, hae, hg, hcell⟩ := HR8.out.at1 q (uv j) (by simp [hj])
            have hcell2 : wr.cell? ⟨g, o + q, none⟩ = some (.int .u32 (j : Nat)) := hcell
            have HAE := hid hae
            obtain ⟨wz, hwz⟩ : ∃ wz, wz = wr := ⟨_, rfl⟩
            subst hwz
            clear hcell hj hg hw
            subst hae
            go_wp2_with fail
            refine (of_some wz wa.heap.size mk j i0 HM8.out HW.out).mono ?_
            rintro e w9 ⟨v9, rfl, -, -, hb9⟩
            have HB9 := hid hb9
            have hs9 := hb9.size
            have HM9 := hid (HM8.out.below hb9 hl8)
            have HC9 := hid (HC8.out.below hb9 hl9)
            have HR9 := hid (HR8.out.all hb9)
            clear hb9
            go_wp2_with fail
            refine (of_some w9 bc mk j i0 HC9.out HW.out).mono ?_
            rintro e w10 ⟨v10, rfl, -, -, hb10⟩
            have HM10 := hid (HM9.out.below hb10 (by omega))
            have HC10 := hid (HC9.out.below hb10 (by omega))
            have HR10 := hid (HR9.out.all hb10)
            have HB10 := hid (HB8.out.trans ((HB9.out.mono hs8).trans (hb10.mono (by omega))))
            have hii : ((i0 : Int) != (i0 : Int)) = false := by simp
            clear hb10
            go_wp2_with fail
            go_roundw
            case rel => exact ⟨q + 1, hql, by go_num, HM10.out, HC10.out, HR10.out, HB10.out⟩
            case measure => simp [intOf]; omega
          · have hqi : ¬ (q : Int) < (js.length : Int) := by omega
            clear hql
            go_wp2
            go_ret
            exact ⟨rfl, HB8.out⟩
  | true =>
    have HM2 := hid (HX.out.at_.below hb2 hlb)
    clear hm2 hv2 hb2
    go_wp2_with fail
    refine (unify_any w2 wa.heap.size m HM2.out HONE.out).mono ?_
    rintro e w3 ⟨v3, rfl, hvc, hmc, hb3⟩
    have hkc := HB2.out.trans (hb3.mono HB2.out.size)
    have hmm := HM2.out.below hb3 (by omega)
    have hs3 := hb3.size
    obtain ⟨bc, hbc⟩ : ∃ bc, bc = w2.heap.size := ⟨_, rfl⟩
    obtain ⟨bq, hbq⟩ : ∃ bc, bc = w2.heap.size := ⟨_, rfl⟩
    rw [← hbc] at hmc ⊢
    rw [← hbq] at hvc
    have HBC := hid (show bc ≠ wa.heap.size by omega)
    clear HBQ
    have HBQ := hid (show wa.heap.size < bq by omega)
    clear hb3 hbc hbq hs2 hl2 hs3
    have hway := unify_way hn16 HONE.out
    have HTR := hid hway.tr
    have HMC := hid hmc
    have HVC := hid hvc
    have HKC := hid hkc
    have HMM := hid hmm
    generalize m.unify.1 = mc at *
    generalize m.unify.2 = ml at *
    obtain ⟨av, cv, rfl, hcv1, hcv2⟩ := owns_slice hvc
    clear hway hmc hvc hkc hmm
    go_wp2_with fail
    go_loopw [48] (fun i wr => ∃ (k : Nat) (mk : Mx), k ≤ ml.length ∧ i = .int .i64 k ∧ Trace mk (ml.drop k) mc ∧ One mk ∧ mk.n = m.n ∧ MxAt wr wa.heap.size mk ∧ MxAt wr bc mc ∧ wr.ownsRow bq 76 3 (.slice av ml.length cv) ml.length (mvcs ml) ∧ Below w.heap.size w wr) (fun i _ => ml.length - (intOf i).toNat)
    case atStart => exact ⟨0, m, Nat.zero_le _, rfl, HTR.out, HONE.out, rfl, HMM.out, HMC.out, HVC.out, HKC.out⟩
    case round =>
      obtain ⟨k, mk, hk, rfl, htr, ho, hnk, hm1, hm2, hv, hB⟩ := hrel
      have HT := hid htr
      have HO := hid ho
      have HNK := hid hnk
      have HM1 := hid hm1
      have HM2 := hid hm2
      have HV := hid hv
      have HK := hid hB
      have hs0 := hB.size
      have hl1 := hm1.lt
      have hl2 := hm2.lt
      clear htr ho hnk hm1 hm2 hv hB
      by_cases hlt : k < ml.length
      · obtain ⟨⟨j, f, t⟩, hx⟩ : ∃ x, ml[k]? = some x := ⟨_, List.getElem?_eq_getElem hlt⟩
        have hki : (k : Int) < (ml.length : Int) := by omega
        have hstep := Trace.at (m := mk) HT.out hx
        have HC := hid hstep.1
        have HT2 := hid hstep.2
        obtain ⟨g, hav⟩ : ∃ g, av = some ⟨g, 0, none⟩ := by
          rcases owns_shape HV.out with ⟨_, h0⟩ | ⟨g, c, e, _⟩
          · omega
          · simp only [Value.slice.injEq] at e
            exact ⟨g, e.1⟩
        have hrg : wr.rangeAt g (0 + k * 3) (mvArr j f t).toList := fun i v hv => by
          have h1 := mvcs_at hx i v hv
          subst hav
          have := World.ownsRow.cells HV.out (g := g) rfl _ v h1
          rw [Addr.add_lit] at this
          rw [show 0 + k * 3 + i = 0 + (k * 3 + i) by omega]; exact this
        rw [Nat.zero_add] at hrg
        have HRG := hid hrg
        have HAV := hid hav
        clear hstep hrg hx
        subst hav
        go_upto_region 10 with (first
          | (refine wpList_load_mid rfl 76 (.tmp 50) rfl g (k * 3) rfl _ _ HRG.out Try.underlying76 rfl (by rw [mv_size]; rfl) ?_)
          | (refine mv_fresh rfl (.tmp 14) (.tmp 51) rfl wr (mvArr j f t) rfl rfl rfl (by simp [Value.oneCell']) ?_; intro wo hgo hbo; have HGO := hid hgo; have HBO := hid hbo; clear hgo hbo)
          | fail)
        obtain ⟨gs, hgs⟩ : ∃ g, g = wr.heap.size := ⟨_, rfl⟩
        rw [← hgs] at HGO
        rw [← hgs]
        have HGS := hid hgs
        have hso := HBO.out.size
        have HSG := hid (show gs < wo.heap.size from (Array.getElem?_eq_some_iff.1 HGO.out).1)
        have HMO := hid (HM1.out.below HBO.out hl1)
        have HMP := hid (HM2.out.below HBO.out hl2)
        have HVO := hid (owns_below HV.out HBO.out)
        have c0 : wo.cell? ⟨gs, 0, none⟩ = some (.int .u32 (j : Nat)) := (cell_of_row _ _ _ _ _ _ HGO.out).trans rfl
        clear hgs HRG
        go_wp2_with fail
        refine (of_some wo wa.heap.size mk j f HMO.out HC.out.wh).mono ?_
        rintro e w5 ⟨v5, rfl, hv5, -, hb5⟩
        have HV5 := hid hv5
        have HB5 := hid hb5
        have hs5 := hb5.size
        have HG5 := hid ((hb5.block gs HSG.out).trans HGO.out)
        have d0 : w5.cell? ⟨gs, 0, none⟩ = some (.int .u32 (j : Nat)) := (cell_of_row _ _ _ _ _ _ HG5.out).trans rfl
        have d1 : w5.cell? ⟨gs, 1, none⟩ = some (.int .i64 (f : Nat)) := (cell_of_row _ _ _ _ _ _ HG5.out).trans rfl
        have HM5 := hid (HMO.out.below hb5 (by omega))
        have HC5 := hid (HMP.out.below hb5 (by omega))
        have HL5 := hid (owns_below HVO.out hb5)
        have hff : ((f : Int) != (f : Int)) = false := by simp
        clear hv5 hb5 c0
        have HGA := hid (show gs ≠ wa.heap.size by have := HGS.out; omega)
        have HRM := hid (remove_yes w5 wa.heap.size j f mk HM5.out HC.out.wh)
        go_wp2_with (first
          | (go_at_call 19; refine HRM.out.mono ?_; rintro e w6 ⟨rfl, hm6, hk6⟩; have HM6 := hid hm6; have HK6 := hid hk6; have hs6 := hk6.size; have HG6 := hid ((hk6.block gs (by have := HSG.out; omega) HGA.out).trans HG5.out); have f0 : w6.cell? ⟨gs, 0, none⟩ = some (.int .u32 (j : Nat)) := (cell_of_row _ _ _ _ _ _ HG6.out).trans rfl; have f2 : w6.cell? ⟨gs, 2, none⟩ = some (.int .i64 (t : Nat)) := (cell_of_row _ _ _ _ _ _ HG6.out).trans rfl; have HN6 := hid (owns_by HV5.out fun q hq => hk6.block q (World.ownsRow.lt HV5.out q hq).2 (by have := (World.ownsRow.lt HV5.out q hq).1; omega)); clear hm6 hk6)
          | (go_at_call 17; refine (put_yes w6 wa.heap.size j t v5 (mk.own f j) (mk.stand f (mk.own f j) 0) HM6.out (RdV.of_own HN6.out) (Off.of_own HN6.out (by omega)) HC.out.j0 (HC.out.j32 HM5.out) (by rw [Mx.stand_r]; exact HC.out.tr) (by have := own_okl HC.out.own; unfold OkL at *; rw [Mx.stand_n]; exact this) (gone_where (by rw [HNK.out]; exact hn16) HO.out HC.out) (gone_fit (by rw [HNK.out]; exact hn16) HC.out)).mono ?_; rintro e w7 ⟨rfl, hm7, hk7⟩; have HM7 := hid (show MxAt w7 wa.heap.size (mk.mv j f t) from hm7); have HK7 := hid hk7; have hs7 := hk7.size; clear hm7 hk7)
          | fail)
        have hk57 := HK6.out.trans HK7.out
        have hmc7 : MxAt w7 bc mc := HC5.out.block (hk57.block bc (by omega) HBC.out)
        have hv7 := owns_by HL5.out fun q hq => hk57.block q (World.ownsRow.lt HL5.out q hq).2 (fun e => by have := (World.ownsRow.lt HL5.out q hq).1; have := HBQ.out; omega)
        have hb7 : Below w.heap.size w w7 := HK.out.trans ((HBO.out.mono hs0).trans ((HB5.out.mono (by omega)).trans (hk57.below (by omega) (fun i hi => by omega))))
        have HMC7 := hid hmc7
        have HV7 := hid hv7
        have HB7 := hid hb7
        have HO7 := hid (mv_one (by rw [HNK.out]; exact hn16) HO.out HC.out)
        clear hk57 hmc7 hv7 hb7
        go_roundw
        case rel => exact ⟨k + 1, mk.mv j f t, hlt, by go_num, HT2.out, HO7.out, (mv_n _ _ _ _).trans HNK.out, HM7.out, HMC7.out, HV7.out, HB7.out⟩
        case measure => simp [intOf]; omega
      · have e : k = ml.length := by omega
        have hki : ¬ (k : Int) < (ml.length : Int) := by omega
        have hend : mk = mc := Trace.end (l := ml) (by rw [← e]; exact HT.out)
        subst hend
        clear e hlt
        go_wp2_with fail
        refine (jobs_any wr wa.heap.size mk HM1.out).mono ?_
        rintro e w5 ⟨v5, rfl, hv5, hb5⟩
        have HR5 := hid (RdV.of_own hv5)
        have HB5 := hid (HK.out.trans (hb5.mono hs0))
        have HM5 := hid (HM1.out.below hb5 hl1)
        have HC5 := hid (HM2.out.below hb5 hl2)
        have HJW := hid (fun j (hj : j ∈ mk.jobs) => jobs_where HO.out hj)
        obtain ⟨a5, c5, rfl, hd1, hd2⟩ := owns_slice hv5
        clear hv5 hb5
        generalize mk.jobs = js at *
        go_wp2_with fail
        go_loopw [89] (fun i wr => ∃ q : Nat, q ≤ js.length ∧ i = .int .i64 q ∧ MxAt wr wa.heap.size mk ∧ MxAt wr bc mk ∧ RdV wr (.slice a5 js.length c5) (js.map uv) ∧ Below w.heap.size w wr) (fun i _ => js.length - (intOf i).toNat)
        case atStart => exact ⟨0, Nat.zero_le _, rfl, HM5.out, HC5.out, HR5.out, HB5.out⟩
        case round =>
          obtain ⟨q, hq, rfl, hm1, hm2, hr, hB⟩ := hrel
          have HM8 := hid hm1
          have HC8 := hid hm2
          have HR8 := hid hr
          have HB8 := hid hB
          have hs8 := hB.size
          have hl8 := hm1.lt
          have hl9 := hm2.lt
          clear hm1 hm2 hr hB
          by_cases hql : q < js.length
          · have hqi : (q : Int) < (js.length : Int) := by omega
            obtain ⟨j, hj⟩ : ∃ j, js[q]? = some j := ⟨_, List.getElem?_eq_getElem hql⟩
            obtain ⟨i0, hw⟩ := HJW.out j (List.mem_of_getElem? hj)
            have HW := hid hw
            obtain ⟨-, g, o, hae, hg, hcell⟩ := HR8.out.at1 q (uv j) (by simp [hj])
            have hcell2 : wr.cell? ⟨g, o + q, none⟩ = some (.int .u32 (j : Nat)) := hcell
            have HAE := hid hae
            obtain ⟨wz, hwz⟩ : ∃ wz, wz = wr := ⟨_, rfl⟩
            subst hwz
            clear hcell hj hg hw
            subst hae
            go_wp2_with fail
            refine (of_some wz wa.heap.size mk j i0 HM8.out HW.out).mono ?_
            rintro e w9 ⟨v9, rfl, -, -, hb9⟩
            have HB9 := hid hb9
            have hs9 := hb9.size
            have HM9 := hid (HM8.out.below hb9 hl8)
            have HC9 := hid (HC8.out.below hb9 hl9)
            have HR9 := hid (HR8.out.all hb9)
            clear hb9
            go_wp2_with fail
            refine (of_some w9 bc mk j i0 HC9.out HW.out).mono ?_
            rintro e w10 ⟨v10, rfl, -, -, hb10⟩
            have HM10 := hid (HM9.out.below hb10 (by omega))
            have HC10 := hid (HC9.out.below hb10 (by omega))
            have HR10 := hid (HR9.out.all hb10)
            have HB10 := hid (HB8.out.trans ((HB9.out.mono hs8).trans (hb10.mono (by omega))))
            have hii : ((i0 : Int) != (i0 : Int)) = false := by simp
            clear hb10
            go_wp2_with fail
            go_roundw
            case rel => exact ⟨q + 1, hql, by go_num, HM10.out, HC10.out, HR10.out, HB10.out⟩
            case measure => simp [intOf]; omega
          · have hqi : ¬ (q : Int) < (js.length : Int) := by omega
            clear hql
            go_wp2
            go_ret
            exact ⟨rfl, HB8.out⟩

/-! ### THE ROW's STEP -/
set_option maxRecDepth 100000 in
theorem lifted (os : Os) (started : os.Started) (H : Type) (enc : TypeId × Value → H) :
    ReturnsInHanded {} Try.checked os 7 .any (Rows.shuffleMovesSpec.pre6 enc Try.prog Try.f7 Rows.shuffleMovesRow.domain false) (Rows.shuffleMovesSpec.post enc Try.prog Try.f7 false true false false) := by
  refine returnsInHanded_of_change (C := Try.checked) own started (by kernel_rfl) Try.func7
    (ChangeSpec.witness6 (enc := enc) (C := Try.checked) false ⟨#[], #[.int .u8 0, .int .u8 0, .slice none 0 0, .bool false], []⟩ 8 (by kernel_rfl) (by kernel_rfl) (by kernel_rfl) (by kernel_rfl)) ?_
  intro W base args ds gs before hval0 hW hcnd _
  have hval : ∀ (j : Nat) t v, Try.f7.params[j]? = some t → args[j]? = some v → Value.okWide Try.prog W .any base t v := hval0
  have hW' := hW
  obtain ⟨p, q, hA0, hV, rfl, hfz, hnd⟩ := hW
  have hA : DataW.TrodAll enc Try.prog W 0 (fun _ => true) true Try.f7.params.toList args.toList ds p := hA0
  rw [Try.params7] at hA hval
  obtain ⟨v0, vs0, d0, ds0, p0, q0, hargs, rfl, rfl, h0, r0⟩ := trodAll_cons hA
  obtain ⟨v1, vs1, d1, ds1, p1, q1, rfl, rfl, rfl, h1, r1⟩ := trodAll_cons r0
  obtain ⟨v2, vs2, d2, ds2, p2, q2, rfl, rfl, rfl, h2, r2⟩ := trodAll_cons r1
  obtain ⟨v3, vs3, d3, ds3, p3, q3, rfl, rfl, rfl, h3, r3⟩ := trodAll_cons r2
  obtain ⟨rfl, rfl, rfl⟩ := trodAll_nil r3
  obtain rfl : args = #[v0, v1, v2, v3] := by cases args; simp_all
  obtain ⟨rfl, rfl⟩ := trodVars_none hV
  have k0 := h0
  have lt0 : ∀ x ∈ p0, x.block < W.heap.size := by obtain ⟨m, hm⟩ := k0; exact DataW.trod_lt m _ _ _ hm
  have k1 := h1
  have lt1 : ∀ x ∈ p1, x.block < W.heap.size := by obtain ⟨m, hm⟩ := k1; exact DataW.trod_lt m _ _ _ hm
  have k2 := h2
  have lt2 : ∀ x ∈ p2, x.block < W.heap.size := by obtain ⟨m, hm⟩ := k2; exact DataW.trod_lt m _ _ _ hm
  have k3 := h3
  have lt3 : ∀ x ∈ p3, x.block < W.heap.size := by obtain ⟨m, hm⟩ := k3; exact DataW.trod_lt m _ _ _ hm
  obtain ⟨a0, rfl, rfl, rfl, w0⟩ := open_int Try.underlying5 (hval 0 5 v0 rfl rfl) h0
  obtain ⟨a1, rfl, rfl, rfl, w1⟩ := open_int Try.underlying5 (hval 1 5 v1 rfl rfl) h1
  obtain ⟨a2, len2, cap2, rfl⟩ := okWide_slice Try.underlying54 (hval 2 54 v2 rfl rfl)
  have w2 : IsStands W a2 len2 cap2 := isStands_of h2
  obtain ⟨a3, rfl, rfl, rfl⟩ := open_bool Try.underlying4 (hval 3 4 v3 rfl rfl) h3
  clear hA0 hval0
  refine (walk a0 a1 a2 len2 cap2 a3 W w0 w1 w2).mono fun e W' ⟨he, bel⟩ => ?_
  subst he
  exact ⟨_, rfl, _, _, _, [], _, [], hW', trodAll_mk1 (shut_bool Try.underlying4 _), (trodAll_cons_mk (Below.trod laidOut (by kernel_rfl) (of_decide_eq_true (by kernel_rfl)) k0 bel lt0) (trodAll_cons_mk (Below.trod laidOut (by kernel_rfl) (of_decide_eq_true (by kernel_rfl)) k1 bel lt1) (trodAll_cons_mk (Below.trod laidOut (by kernel_rfl) (of_decide_eq_true (by kernel_rfl)) k2 bel lt2) (trodAll_cons_mk (Below.trod laidOut (by kernel_rfl) (of_decide_eq_true (by kernel_rfl)) k3 bel lt3) trodAll_mk0)))), rfl, bel.frame _, fun h => by cases h⟩

theorem over : Rows.shuffleMovesRow.holds Try.pinned (OpenSpec.ofChange Rows.shuffleMovesSpec) :=
  OpenClaim.holds_of_wide 7 Try.f7 rfl rfl rfl rfl rfl rfl rfl ⟨rfl, rfl, rfl, rfl, rfl⟩ rfl rfl rfl rfl rfl (by kernel_rfl) Try.func7 (by kernel_rfl)
    (of_decide_eq_true (by kernel_rfl)) (by unfold Func.isWrapper; first | (rw [if_pos (by decide +kernel)]; kernel_rfl) | (rw [if_neg (by decide +kernel)]; exact ⟨rfl, rfl⟩))
    (fun os started H enc _ => lifted os started H enc)

/-- THE STATEMENT -/
theorem shuffleMoves_holds : Rows.ShuffleMovesSaid := over
#print axioms shuffleMoves_holds
end Go.Proofs.Ytnffmijanikjgaa.shuffleMoves
