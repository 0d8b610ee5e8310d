/-
  Victim: Choose.
-/
import Derived.Test.YtdongghjchnpbaaVcF
namespace Go.Proofs.Ytdongghjchnpbaa
open Go.RowKit Go.Shelf
set_option linter.unusedVariables false
set_option linter.unusedSimpArgs false

theorem results_cellC {fn : Func} {p u : Tmp} {ty : TypeId} (h : fn.results = #[.cell p ty, .tmp u]) (tmps : Array Value) (w : World) (v : Value) (g : Nat) (t : TypeId) (cs : Array Value) (fr : Nat × Nat) (fs : Array Field)
    (hp : tmps.getD p undef = .pointer (some ⟨g, 0, none⟩)) (hv : tmps.getD u undef = v) (hg : w.heap[g]? = some (.cells cs t fr))
    (hu : Try.prog.underlying ty = some (.struct fs)) (hi : (Try.prog.info? ty).map (·.size) = some cs.size) :
    (results fn tmps).run Try.prog w = .ok (.tuple #[.agg cs, v]) w := by
  rw [results_cell_tmp h, hp, hv]
  simp [asAddr, run_loadVar_row w g t ty cs fr (.struct fs) hg hu rfl hi]

theorem setC2 {w : World} {g : Nat} {A B C D : Value} {T : TypeId} (hg : w.heap[g]? = some (.cells #[A, B] T (0, 0))) : ((w.setCell ⟨g, 0, none⟩ C).setCell ⟨g, 1, none⟩ D).heap[g]? = some (.cells #[C, D] T (0, 0)) := by
  rw [heap_setCell_same _ _ _ _ _ _ (heap_setCell_same _ _ _ _ _ _ hg)]
  simp

/-- What Choose tells. -/
def ChoIs (w : World) (o : Option (Nat × List Cd)) (e : Ending) (w' : World) : Prop :=
  Below w.heap.size w w' ∧ match o with
  | none => e = .returned (.tuple #[.agg #[.int .i64 0, .slice none 0 0], .bool false])
  | some p => ∃ u, e = .returned (.tuple #[.agg #[.int .i64 (p.1 : Nat), u], .bool true]) ∧ w'.ownsRow w.heap.size 33 1 u p.2.length (p.2.map fun c => uv c.1)

/-- In the midst of it. -/
def ChoMid (wr : World) (o : Option (Nat × List Cd)) (lv av fv : Value) : Prop :=
  (o = none ∧ lv = .slice none 0 0 ∧ av = .int .i64 0 ∧ fv = .bool false) ∨ ∃ bb p, o = some (bb, p) ∧ RdC wr lv p ∧ av = .int .i64 (bb : Nat) ∧ fv = .bool true ∧ p.length ≤ 16

theorem ChoMid.below {wr w' : World} {o : Option (Nat × List Cd)} {lv av fv : Value} (h : ChoMid wr o lv av fv) (hb : Below wr.heap.size wr w') : ChoMid w' o lv av fv := by
  rcases h with h | ⟨bb, p, h1, h2, h3⟩
  · exact .inl h
  · exact .inr ⟨bb, p, h1, h2.below hb, h3⟩

theorem step15_none {f : Nat → Option (List Cd)} {k : Nat} (h : f k = none) : best15 f (k + 1) = best15 f k := by rw [best15_succ]; unfold step15; rw [h]
theorem step15_first {f : Nat → Option (List Cd)} {k : Nat} {q : List Cd} (h : f k = some q) (hb : best15 f k = none) : best15 f (k + 1) = some (k, q) := by rw [best15_succ]; unfold step15; rw [h, hb]
theorem step15_less {f : Nat → Option (List Cd)} {k : Nat} {q : List Cd} {p : Nat × List Cd} (h : f k = some q) (hb : best15 f k = some p) (hh : Harm q p.2) : best15 f (k + 1) = some (k, q) := by rw [best15_succ]; unfold step15; rw [h, hb]; simp only; rw [if_pos hh]
theorem step15_stay {f : Nat → Option (List Cd)} {k : Nat} {q : List Cd} {p : Nat × List Cd} (h : f k = some q) (hb : best15 f k = some p) (hh : ¬ Harm q p.2) : best15 f (k + 1) = best15 f k := by rw [best15_succ]; unfold step15; rw [h, hb]; simp only; rw [if_neg hh]

set_option maxRecDepth 100000 in
set_option maxHeartbeats 4000000 in
theorem choose15_any (w : World) (b : Nat) (m : Mx) (vl : Value) (l : List Cd) (tier : Nat) (K : Int) (h : MxAt w b m) (hl : RdC w vl l) (hll : l.length ≤ 1000) (ht : tier < 256) (hlb : ∀ x ∈ l, x.1 < 4294967296 ∧ x.2 < 256) :
    Calls Try.prog 26 #[.pointer (some ⟨b, 0, none⟩), vl, .int .u8 (tier : Nat), .int .i64 K] w (ChoIs w (best15 (fun r => m.leave r l tier K) m.r)) := by
  obtain ⟨y0, hy0⟩ : ∃ y, y = w.alloc (.cells #[.int .i64 0, .slice none 0 0] 62) := ⟨_, rfl⟩
  have hb0 : Below w.heap.size w y0 := by rw [hy0]; exact (Below.refl _ _).alloc (Nat.le_refl _) _
  have hg0 : y0.heap[w.heap.size]? = some (.cells #[.int .i64 0, .slice none 0 0] 62 (0, 0)) := by rw [hy0]; exact heap_alloc_new w _
  obtain ⟨pb, hpb⟩ : ∃ p, p = w.heap.size := ⟨_, rfl⟩
  rw [← hpb] at hg0
  have hpl : pb < y0.heap.size := (Array.getElem?_eq_some_iff.1 hg0).1
  have HG := hid hg0
  have HB0 := hid hb0
  have HPB := hid hpb
  have HSZ := hid (size_any y0 b m (h.below hb0 h.lt))
  have HLV := hid (fun W (hb : Below y0.heap.size y0 W) row (hr : row < m.r) => leaving_any W b row m vl l tier K ((h.below hb0 h.lt).below hb (Nat.lt_of_lt_of_le h.lt hb0.size)) hr ((hl.below hb0).below hb) hll ht hlb)
  have HQL := hid (fun row q (hq : m.leave row l tier K = some q) => show q.length ≤ 16 from Nat.le_trans (Mx.leave_len hq) h.n16)
  have hr8 := h.r8
  generalize hf : (fun r => m.leave r l tier K) = f
  have HLV2 := hid (show ∀ W, Below y0.heap.size y0 W → ∀ row, row < m.r → Calls Try.prog 53 #[.pointer (some ⟨b, 0, none⟩), .int .i64 row, vl, .int .u8 (tier : Nat), .int .i64 K] W (LeaveIs W (f row)) from fun W hb row hr => by rw [← hf]; exact HLV.out W hb row hr)
  have HQL2 := hid (show ∀ row q, f row = some q → q.length ≤ 16 from fun row q hq => by rw [← hf] at hq; exact HQL.out row q hq)
  clear h hl hll ht hlb hb0 hg0 hf HLV HQL
  generalize hR : m.r = R at *
  clear hR
  go_enter Try.func26, Try.ntmps26
  go_upto_region 1 with (fail)
  rw [← hy0, ← hpb]
  clear hy0 hpb
  go_wp2_with fail
  refine HSZ.out.mono ?_
  rintro e w1 ⟨rfl, nd, hnd⟩
  have HB1 := hid (show Below y0.heap.size y0 w1 by rw [hnd]; exact ⟨rfl, rfl, rfl, Nat.le_refl _, fun _ _ => rfl⟩)
  clear hnd
  go_wp2_with fail
  go_loopw [12, 13, 14, 24] (fun lv av fv i wr => ∃ k : Nat, i = .int .i64 k ∧ k ≤ R ∧ ChoMid wr (best15 f k) lv av fv ∧ Below y0.heap.size y0 wr) (fun _ _ _ i _ => R - (intOf i).toNat)
  case atStart => exact ⟨0, rfl, Nat.zero_le _, .inl ⟨rfl, rfl, rfl, rfl⟩, HB1.out⟩
  case round =>
    obtain ⟨k, rfl, hk, hm, hb⟩ := hrel
    have HB := hid hb
    by_cases hkn : k < R
    · have hki : (k : Int) < (R : Int) := by omega
      have HM := hid hm
      have HL := hid (HLV2.out wr hb k hkn)
      clear hb hm
      cases hv : f k with
      | none =>
        rw [hv] at HL
        have HE := hid (step15_none hv)
        clear hv
        go_wp2_with fail
        refine HL.out.mono ?_
        rintro e w2 ⟨hb2, rfl⟩
        have HB2 := hid (HB.out.trans (hb2.mono HB.out.size))
        have HM2 := hid (HM.out.below hb2)
        clear hb2
        go_wp2_with fail
        go_roundw
        case rel => exact ⟨k + 1, by go_num, by omega, by rw [HE.out]; exact HM2.out, HB2.out⟩
        case measure => simp [intOf]; omega
      | some q =>
        have hq16 := HQL2.out k q hv
        rw [hv] at HL
        have HV := hid hv
        clear hv
        go_upto_region 8 with (first
          | (go_at_call 53; (with_reducible refine HL.out.mono ?_); rintro e w2 ⟨hb2, v2, rfl, hr2⟩; have HB2 := hid (HB.out.trans (hb2.mono HB.out.size)); have hm2 := HM.out.below hb2; have HR2 := hid hr2; clear hb2 hr2)
          | fail)
        rcases hm2 with ⟨ho, rfl, rfl, rfl⟩ | ⟨bb, p, ho, hp, rfl, rfl, hp16⟩
        · have HE := hid (step15_first HV.out ho)
          clear ho
          go_wp2_with fail
          go_roundw
          case rel => exact ⟨k + 1, by go_num, by omega, .inr ⟨k, q, HE.out, HR2.out, rfl, rfl, hq16⟩, HB2.out⟩
          case measure => simp [intOf]; omega
        · have HH := hid (harm_any w2 _ _ q p HR2.out hp (by omega) (by omega))
          have HP := hid hp
          by_cases hh : Harm q p
          · have HE := hid (step15_less HV.out ho hh)
            have ho2 := (harmI_harm q p).2 hh
            generalize harmI q p = O at *
            clear ho hh hp
            go_wp2_with (first
              | (go_at_call 54; (with_reducible refine HH.out.mono ?_); rintro e w3 ⟨rfl, hb3⟩; have HB3 := hid (HB2.out.trans (hb3.mono HB2.out.size)); have HR3 := hid (HR2.out.below hb3); clear hb3)
              | fail)
            go_roundw
            case rel => exact ⟨k + 1, by go_num, by omega, .inr ⟨k, q, HE.out, HR3.out, rfl, rfl, hq16⟩, HB3.out⟩
            case measure => simp [intOf]; omega
          · have HE := hid ((step15_stay HV.out ho hh).trans ho)
            have ho2 := mt (harmI_harm q p).1 hh
            generalize harmI q p = O at *
            clear ho hh hp
            go_wp2_with (first
              | (go_at_call 54; (with_reducible refine HH.out.mono ?_); rintro e w3 ⟨rfl, hb3⟩; have HB3 := hid (HB2.out.trans (hb3.mono HB2.out.size)); have HP3 := hid (HP.out.below hb3); clear hb3)
              | fail)
            go_roundw
            case rel => exact ⟨k + 1, by go_num, by omega, .inr ⟨bb, p, HE.out, HP3.out, rfl, rfl, hp16⟩, HB3.out⟩
            case measure => simp [intOf]; omega
    · have hki : ¬ (k : Int) < (R : Int) := by omega
      have hkR : k = R := by omega
      have g5 := (hb.block _ hpl).trans HG.out
      have HG5 := hid g5
      rw [hkR] at hm
      have hpr : pb < wr.heap.size := Nat.lt_of_lt_of_le hpl hb.size
      have x0 : wr.cell? ⟨pb, 0, none⟩ = some (.int .i64 0) := (cell_of_row _ _ _ _ _ _ g5).trans rfl
      have x1 : wr.cell? ⟨pb, 1, none⟩ = some (.slice none 0 0) := (cell_of_row _ _ _ _ _ _ g5).trans rfl
      have z0 : wr.frozen? ⟨pb, 0, none⟩ = false := frozen_of_row _ _ _ _ _ g5
      have z1 : wr.frozen? ⟨pb, 1, none⟩ = false := frozen_of_row _ _ _ _ _ g5
      clear hb g5 hkR hkn
      rcases hm with ⟨ho, rfl, rfl, rfl⟩ | ⟨bb, p, ho, hp, rfl, rfl, hp16⟩
      · have HO := hid ho
        clear ho
        go_wp2_with fail
        (try simp only [Exit.inBlock, Exit.then]); refine bodyPost_ret (results_cellC rfl _ _ _ pb 62 #[.int .i64 0, .slice none 0 0] (0, 0) _ rfl rfl (setC2 HG5.out) Try.underlying62 (by kernel_rfl)) rfl ?_
        unfold ChoIs
        rw [HO.out]
        exact ⟨((HB0.out.trans (HB.out.mono HB0.out.size)).setCell (by rw [HPB.out]; simp) _).setCell (by rw [HPB.out]; simp) _, rfl⟩
      · have HO := hid ho
        have HNU := hid (numbers_any wr _ p hp (by omega))
        clear ho hp x0 x1 z0 z1
        go_upto_region 13 with (fail)
        have HWR := hid (show Below w.heap.size w wr from HB0.out.trans (HB.out.mono HB0.out.size))
        go_wp2_with fail
        refine HNU.out.mono ?_
        rintro e w3 ⟨u, rfl, ho3, hb3⟩
        have g6 := (hb3.block _ hpr).trans HG5.out
        have HG6 := hid g6
        have HO3 := hid ho3
        have HB3 := hid (HWR.out.trans (hb3.mono HWR.out.size))
        have x0 : w3.cell? ⟨pb, 0, none⟩ = some (.int .i64 0) := (cell_of_row _ _ _ _ _ _ g6).trans rfl
        have x1 : w3.cell? ⟨pb, 1, none⟩ = some (.slice none 0 0) := (cell_of_row _ _ _ _ _ _ g6).trans rfl
        have z0 : w3.frozen? ⟨pb, 0, none⟩ = false := frozen_of_row _ _ _ _ _ g6
        have z1 : w3.frozen? ⟨pb, 1, none⟩ = false := frozen_of_row _ _ _ _ _ g6
        have hne : ∀ q, u.ownBlock = some q → q ≠ pb := fun q hq => by have := (World.ownsRow.lt ho3 q hq).1; omega
        have HNE := hid hne
        obtain ⟨au, cu, rfl, -, -⟩ := owns_slice ho3
        clear ho3 hb3 g6 hne
        go_wp2_with fail
        (try simp only [Exit.inBlock, Exit.then]); refine bodyPost_ret (results_cellC rfl _ _ _ pb 62 #[.int .i64 (bb : Nat), .slice au p.length cu] (0, 0) _ rfl rfl (setC2 HG6.out) Try.underlying62 (by kernel_rfl)) rfl ?_
        unfold ChoIs
        rw [HO.out]
        have HS1 := HWR.out.size
        refine ⟨(HB3.out.setCell (by rw [HPB.out]; simp) _).setCell (by rw [HPB.out]; simp) _, _, rfl, ?_⟩
        refine owns_by (owns_base HO3.out HS1) fun q hq => ?_
        have hk : ∀ (W : World) (i : Nat) (v : Value), Keeps (fun k => k = pb) W (W.setCell ⟨pb, i, none⟩ v) := fun W i v => (Keeps.refl (fun k => k = pb) W).setCell (p := ⟨pb, i, none⟩) (fun _ => rfl) _
        have hq3 := (World.ownsRow.lt HO3.out q hq).2
        exact ((hk _ 1 _).block q (Nat.lt_of_lt_of_le hq3 (hk _ 0 _).size) (HNE.out q hq)).trans ((hk _ 0 _).block q hq3 (HNE.out q hq))

end Go.Proofs.Ytdongghjchnpbaa
