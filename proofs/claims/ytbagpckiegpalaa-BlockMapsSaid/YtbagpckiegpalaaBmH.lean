/-
  Layer 6: a map of places: Mark of a free one.
-/
import Derived.Test.YtbagpckiegpalaaBmG
import Derived.Deep.Cut
import Derived.Deep.CutRange
import Derived.Deep.CutBlock
namespace Go.Proofs.Ytbagpckiegpalaa
open Go.RowKit
set_option linter.unusedVariables false
set_option linter.unusedSimpArgs false

theorem runCells_take (F : List (Int × Int)) (k : Nat) : (runCells F).take (k * 2) = runCells (F.take k) := by
  induction F generalizing k with
  | nil => simp [runCells]
  | cons x l ih =>
    obtain ⟨a, b⟩ := x
    cases k with
    | zero => simp [runCells]
    | succ k => rw [show (k + 1) * 2 = k * 2 + 1 + 1 by omega]; simp only [runCells, List.take_succ_cons, ih]

theorem runCells_drop (F : List (Int × Int)) (k : Nat) : (runCells F).drop (k * 2) = runCells (F.drop k) := by
  induction F generalizing k with
  | nil => simp [runCells]
  | cons x l ih =>
    obtain ⟨a, b⟩ := x
    cases k with
    | zero => simp [runCells]
    | succ k => rw [show (k + 1) * 2 = k * 2 + 1 + 1 by omega]; simp only [runCells, List.drop_succ_cons, ih]

theorem runCells_one (F : List (Int × Int)) : ∀ u ∈ runCells F, u.oneCell' = true := by
  induction F with
  | nil => intro u hu; cases hu
  | cons x l ih =>
    obtain ⟨a, b⟩ := x
    intro u hu
    simp only [runCells, List.mem_cons] at hu
    rcases hu with rfl | rfl | hu
    · rfl
    · rfl
    · exact ih u hu

theorem MG.own {w : World} {lo b g : Nat} {size left : Int} {F : List (Int × Int)} {C : Nat} {sp : List Value} (h : MG w lo b g size left F C sp) (hC : C ≤ maxLen) : w.ownsRow lo 116 2 (.slice (some ⟨g, 0, none⟩) F.length C) F.length (runCells F) :=
  have hl := runCells_length F
  have hc := h.cap
  ⟨by rw [hl]; omega, .inr ⟨g, C, _, rfl, h.log, h.run, by omega, hC, by simp only [List.size_toArray, List.length_append, hl]; omega, List.take_left' (by rw [hl]; omega)⟩⟩

theorem MG.of_own {w : World} {lo b q : Nat} {size left : Int} {F : List (Int × Int)} {C N : Nat} (hm : w.heap[b]? = some (.cells #[.int .i64 size, .int .i64 left, .slice (some ⟨q, 0, none⟩) N C] 114 (0, 0))) (hlo : lo ≤ b) (ho : w.ownsRow lo 116 2 (.slice (some ⟨q, 0, none⟩) N C) N (runCells F)) :
    ∃ sp, MG w lo b q size left F C sp ∧ C ≤ maxLen := by
  obtain ⟨cur, hg, hsz, htk, hcap, hcm, hb⟩ := owns_setRow ho
  have hl := runCells_length F
  have hN : N = F.length := by have := ho.1; omega
  subst hN
  have hcur : cur = (runCells F ++ cur.toList.drop (F.length * 2)).toArray := by
    rw [← htk, List.take_append_drop]
  refine ⟨cur.toList.drop (F.length * 2), ⟨hm, by rw [← hcur]; exact hg, hlo, hb, ?_⟩, hcm⟩
  simp only [List.length_drop, Array.length_toList, hsz]
  omega

theorem VS.of_own {w : World} {base g m : Nat} {v : Value} {vs : List Value} (h : w.ownsRow base 116 2 v m vs) (hne : ∀ k, v.ownBlock = some k → k ≠ g) (h1 : ∀ u ∈ vs, u.oneCell' = true) : VS w g v m vs := by
  rcases h.2 with ⟨rfl, rfl⟩ | ⟨q, cap, cur, rfl, _, hg, _, _, _, htk⟩
  · exact .inl ⟨rfl, rfl, List.eq_nil_of_length_eq_zero (by rw [h.1, Nat.zero_mul])⟩
  · exact .inr ⟨q, cap, cur, rfl, hne q rfl, hg, h.1, htk, h1⟩

/-- Runs that a call has put together: in memory of its own. -/
def SideAt (wb : World) (V : List (Int × Int)) (v : Value) (wx : World) : Prop :=
  wx.ownsRow wb.heap.size 116 2 v V.length (runCells V) ∧ Below wb.heap.size wb wx

/-- What Mark, Free and Take leave. -/
def MapPost (w : World) (lo b g : Nat) (size left : Int) (F : List (Int × Int)) (r : Value) (e : Ending) (w' : World) : Prop :=
  e = .returned r ∧ (∃ q C sp, MG w' lo b q size left F C sp ∧ C ≤ maxLen ∧ (q = g ∨ w.heap.size ≤ q)) ∧ Keeps (fun k => k = b ∨ k = g) w w'

theorem side_lit (wb wx : World) (V : List (Int × Int)) (v : Value) (x y : Int) (h : SideAt wb V v wx) (hl : V.length ≤ 4) :
    ∃ ad cap w', (Builtin.append_ #[112, 112] 112 #[v, .slice (some ⟨wx.heap.size, 0, none⟩) 1 1]).run Try.prog (wx.alloc (.cells #[.int .i64 x, .int .i64 y] 116)) = .ok (.slice ad (V.length + 1) cap) w' ∧ SideAt wb (V ++ [(x, y)]) (.slice ad (V.length + 1) cap) w' := by
  have hb : Below wx.heap.size wx (wx.alloc (.cells #[.int .i64 x, .int .i64 y] 116)) := (Below.refl _ wx).alloc (Nat.le_refl _) _
  have hbs := h.2.size
  obtain ⟨ad, cap, w', h1, h2, h3, h4⟩ := run_apps2 (wx.alloc (.cells #[.int .i64 x, .int .i64 y] 116)) 112 wb.heap.size 112 116 2 16 (.agg #[.int .i64 0, .int .i64 0]) Try.underlying112 (by kernel_rfl) rfl (by omega) v (.slice (some ⟨wx.heap.size, 0, none⟩) 1 1) V.length 1 (runCells V) [.int .i64 x, .int .i64 y] (owns_below h.1 hb) (SrcC.lit wx _ _ 1 _ rfl) rfl (two_one x y) (by omega) (by omega) (by have := hb.size; omega)
  refine ⟨ad, cap, w', h1, ?_, ?_⟩
  · have e : runCells (V ++ [(x, y)]) = runCells V ++ [.int .i64 x, .int .i64 y] := by rw [runCells_append]; rfl
    rw [e, List.length_append, List.length_singleton]
    exact h2
  · have hk : Keeps (fun k => v.ownBlock = some k) (wx.alloc (.cells #[.int .i64 x, .int .i64 y] 116)) w' := Keeps.of_grown h3
    exact (h.2.trans (hb.mono hbs)).trans (hk.below (by have := hb.size; omega) (fun i hi => (World.ownsRow.lt h.1 i hi).1))

theorem setCell_else (w : World) (g o k : Nat) (v : Value) (h : k ≠ g) : (w.setCell ⟨g, o, none⟩ v).heap[k]? = w.heap[k]? := by
  show (w.heap.modify g _)[k]? = _
  rw [Array.getElem?_modify, if_neg (by omega)]

theorem unrun_length (f u i : Int) : (unrun f u i).length ≤ 2 := by
  unfold unrun
  by_cases h1 : f < i <;> by_cases h2 : i + 1 < u <;> simp [h1, h2]

set_option maxRecDepth 100000 in
set_option maxHeartbeats 4000000 in
/-- MARK of a place that is free. -/
theorem mark_in (w : World) (lo b g K : Nat) (size left i : Int) (C : Nat) (F : List (Int × Int)) (sp : List Value) (h : MG w lo b g size left F C sp) (hC : C ≤ maxLen) (hn : F.length ≤ 1000000) (hlw : lo ≤ w.heap.size) (hm : ∀ (k : Nat) f u, F[k]? = some (f, u) → decide (i < u) = decide (K ≤ k)) (f u : Int) (hf : F[K]? = some (f, u)) (hi : f ≤ i) (hi2 : i < u) (h0 : 0 ≤ f) (hu : u ≤ 1000000) (hl0 : 0 < left) (hl1 : left ≤ 1000000) :
    Calls Try.prog 33 #[.pointer (some ⟨b, 0, none⟩), .int .i64 i] w (MapPost w lo b g size (left - 1) (F.take K ++ unrun f u i ++ F.drop (K + 1)) (.bool true)) := by
  have hh := findG_in w b g lo K size left i C F sp h hn hm f u hf
  rw [decide_eq_true hi] at hh
  have HF := hid hh
  have H := hid h
  have HM := hid (show C ≤ maxLen ∧ F.length ≤ 1000000 ∧ lo ≤ w.heap.size ∧ F[K]? = some (f, u) from ⟨hC, hn, hlw, hf⟩)
  have HBG := hid (show b ≠ g by
    intro e
    have h1 := h.map
    rw [e, h.run] at h1
    simp at h1)
  clear h hC hn hlw hm hf hh
  go_enter Try.func33, Try.ntmps33
  go_upto_region 7 with (first
    | (go_at_call 52; refine (HF.out).mono ?_; rintro e w1 ⟨rfl, hb1⟩)
    | fail)
  have H1 := hid (H.out.below hb1)
  have HB1 := hid hb1
  clear hb1
  obtain ⟨V1, hV1⟩ : ∃ V, V = (if f < i then [(f, i)] else []) := ⟨_, rfl⟩
  have HV1 := hid hV1
  clear hV1
  obtain ⟨n, hnn⟩ : ∃ n, n = F.length := ⟨_, rfl⟩
  have HN := hid hnn
  have hKn : K < F.length := (List.getElem?_eq_some_iff.1 HM.out.2.2.2).1
  have hKn2 : (K : Int) < (n : Int) := by omega
  have HKN := hid (show K < n by omega)
  clear hnn hKn
  obtain ⟨⟨-, -, c2⟩, -, -, -⟩ := H1.out.cells
  obtain ⟨d0, d1⟩ := H1.out.at K f u HM.out.2.2.2
  rw [← HN.out] at c2
  go_upto_region 8 with fail
  obtain ⟨wr, hwr⟩ : ∃ z, z = w1.alloc (.cells #[.int .i64 f, .int .i64 u] 116) := ⟨_, rfl⟩
  rw [← hwr]
  have hbr : Below w1.heap.size w1 wr := by rw [hwr]; exact (Below.refl _ _).alloc (Nat.le_refl _) _
  have hr0 : wr.cell? ⟨w1.heap.size, 0, none⟩ = some (.int .i64 f) := by rw [hwr]; exact (cell_of_row _ _ _ _ _ _ (heap_alloc_new _ _)).trans rfl
  have HBR := hid hbr
  clear hwr hbr c2 d0 d1
  go_upto_if 30 with fail
  go_cut [7] from 30 to 37 (fun v wx => SideAt w1 V1 v wx)
  case first =>
    by_cases hfi : f < i
    · obtain ⟨ad, cp, w3, hrun, hS⟩ := side_lit w1 wr [] (.slice none 0 0) f i ⟨World.ownsRow_nil _ _ _ _, HBR.out⟩ (by simp)
      have HR := hid (show (Builtin.append_ #[112, 112] 112 #[.slice none 0 0, .slice (some ⟨wr.heap.size, 0, none⟩) 1 1]).run Try.prog (wr.alloc (.cells #[.int .i64 f, .int .i64 i] 116)) = .ok (.slice ad 1 cp) w3 from hrun)
      have HS := hid (show SideAt w1 V1 (.slice ad 1 cp) w3 by rw [HV1.out, if_pos hfi]; exact hS)
      clear hrun hS
      go_wp2_with (first
        | (at_builtin; refine ap_run rfl 112 112 (.tmp 31) (.tmp 36) rfl _ _ _ _ rfl rfl HR.out ?_)
        | fail)
      go_meet
      case rel => exact HS.out
    · have HS := hid (show SideAt w1 V1 (.slice none 0 0) wr by rw [HV1.out, if_neg hfi]; exact ⟨World.ownsRow_nil _ _ _ _, HBR.out⟩)
      go_wp2_with fail
      go_meet
      case rel => exact HS.out
  case rest =>
    have hS1 := hcut
    obtain ⟨ad1, cp1, hv7, hle1, hcm1⟩ := owns_slice hS1.1
    subst hv7
    have HS1 := hid hS1
    clear hS1 hcut hle1 hcm1 hr0 HBR
    obtain ⟨w2, hw2⟩ : ∃ z, z = wc := ⟨_, rfl⟩
    subst hw2
    obtain ⟨V2, hV2⟩ : ∃ V, V = (if i + 1 < u then [(i + 1, u)] else []) := ⟨_, rfl⟩
    have HV2 := hid hV2
    clear hV2
    have HVL := hid (show V1.length ≤ 1 by rw [HV1.out]; split <;> simp)
    obtain ⟨m1, hm1⟩ : ∃ m, m = V1.length := ⟨_, rfl⟩
    rw [← hm1]
    have HM1 := hid hm1
    clear hm1
    have H2 := hid (H1.out.below HS1.out.2)
    have hw1 : IntKind.i64.wrap (i + 1) = i + 1 := by rw [IntKind.wrap_i64]; omega
    obtain ⟨⟨-, -, c2⟩, -, -, -⟩ := H2.out.cells
    obtain ⟨d0, d1⟩ := H2.out.at K f u HM.out.2.2.2
    rw [← HN.out] at c2
    go_upto_region 11 with fail
    obtain ⟨ws, hws⟩ : ∃ z, z = w2.alloc (.cells #[.int .i64 f, .int .i64 u] 116) := ⟨_, rfl⟩
    rw [← hws]
    have hbr : Below w2.heap.size w2 ws := by rw [hws]; exact (Below.refl _ _).alloc (Nat.le_refl _) _
    have hr1 : ws.cell? ⟨w2.heap.size, 1, none⟩ = some (.int .i64 u) := by rw [hws]; exact (cell_of_row _ _ _ _ _ _ (heap_alloc_new _ _)).trans rfl
    have HBR := hid hbr
    clear hws hbr c2 d0 d1
    go_upto_if 49 with fail
    go_cut [7] from 49 to 57 (fun v wx => SideAt w1 (V1 ++ V2) v wx)
    case first =>
      by_cases hfi : i + 1 < u
      · obtain ⟨ad, cp, w3, hrun, hS⟩ := side_lit w1 ws V1 (.slice ad1 V1.length cp1) (i + 1) u ⟨owns_below HS1.out.1 HBR.out, HS1.out.2.trans (HBR.out.mono HS1.out.2.size)⟩ (by have := HVL.out; omega)
        rw [← HM1.out] at hrun
        have HR := hid hrun
        have HS := hid (show SideAt w1 (V1 ++ V2) (.slice ad (m1 + 1) cp) w3 by rw [HV2.out, if_pos hfi, HM1.out]; exact hS)
        clear hrun hS
        go_wp2_with (first
          | (at_builtin; refine ap_run rfl 112 112 (.tmp 50) (.tmp 56) rfl _ _ _ _ rfl rfl HR.out ?_)
          | fail)
        go_meet
        case rel => exact HS.out
      · have HS := hid (show SideAt w1 (V1 ++ V2) (.slice ad1 m1 cp1) ws by rw [HV2.out, if_neg hfi, HM1.out, List.append_nil]; exact ⟨owns_below HS1.out.1 HBR.out, HS1.out.2.trans (HBR.out.mono HS1.out.2.size)⟩)
        go_wp2_with fail
        go_meet
        case rel => exact HS.out
    case rest =>
      have hS2 := hcut
      obtain ⟨ad2, cp2, hv7, hle2, hcm2⟩ := owns_slice hS2.1
      subst hv7
      have HS2 := hid hS2
      clear hS2 hcut hle2 hcm2 hr1 HBR
      have HVU := hid (show V1 ++ V2 = unrun f u i by rw [HV1.out, HV2.out]; rfl)
      obtain ⟨V, hV⟩ : ∃ V, V = V1 ++ V2 := ⟨_, rfl⟩
      rw [← hV] at HS2 HVU ⊢
      clear hV
      obtain ⟨m, hm⟩ : ∃ m, m = V.length := ⟨_, rfl⟩
      have HML := hid (show m = V.length ∧ m ≤ 2 from ⟨hm, by rw [hm, HVU.out]; exact unrun_length f u i⟩)
      rw [← hm] at HS2 ⊢
      clear hm
      obtain ⟨w3, hw3⟩ : ∃ z, z = wc := ⟨_, rfl⟩
      subst hw3
      have H3 := hid (H1.out.below HS2.out.2)
      obtain ⟨⟨-, c1, c2⟩, -, z1, z2⟩ := H3.out.cells
      rw [← HN.out] at c2
      have hlw3 : lo ≤ w3.heap.size := by have := HM.out.2.2.1; have := HB1.out.size; have := HS2.out.2.size; omega
      have hs2 : w3.ownsRow w1.heap.size 116 2 (.slice ad2 m cp2) m (runCells V) := by have := HS2.out.1; rw [← HML.out.1] at this; exact this
      have hvs : VS w3 g (.slice ad2 m cp2) m (runCells V) := VS.of_own hs2 (fun k hk => by
        have := (World.ownsRow.lt hs2 k hk).1
        have := (Array.getElem?_eq_some_iff.1 H1.out.run).1
        omega) (runCells_one V)
      have hcall := rep_any w3 lo g n C K (K + 1) m cp2 ad2 (runCells F) (runCells V) (by rw [HN.out]; exact H3.out.own HM.out.1) hvs hlw3 (by omega) (by have := HKN.out; omega) HML.out.2 (by rw [HN.out]; exact HM.out.2.1) (runCells_one F)
      rw [runCells_take, runCells_drop, ← runCells_append, ← runCells_append] at hcall
      have hk1 : ((K + 1 : Nat) : Int) = (K : Int) + 1 := by omega
      rw [hk1] at hcall
      obtain ⟨N, hN⟩ : ∃ N, N = K + m + (n - (K + 1)) := ⟨_, rfl⟩
      rw [← hN] at hcall
      have HC := hid hcall
      clear hN
      have HM3 := hid (show w3.heap[b]? = some (.cells #[.int .i64 size, .int .i64 left, .slice (some ⟨g, 0, none⟩) n C] 114 (0, 0)) by rw [HN.out]; exact H3.out.map)
      have HBL := hid (show b < w3.heap.size from (Array.getElem?_eq_some_iff.1 HM3.out).1)
      clear hcall hvs hs2 hlw3 hk1
      have hwk : IntKind.i64.wrap ((K : Int) + 1) = (K : Int) + 1 := by
        have := HN.out; have := HM.out.2.1; have := HKN.out
        rw [IntKind.wrap_i64]; omega
      go_upto_region 14 with (first
        | (go_at_call 53; refine (HC.out).mono ?_; rintro e w4 ⟨q, C', rfl, ho4, hq4, hk4⟩; have HM4 := hid ((hk4.block b HBL.out HBG.out).trans HM3.out); have y2 := (cell_of_row _ b 2 _ _ _ HM4.out).trans (show _ = some (Value.slice (some ⟨g, 0, none⟩) n C) from rfl); have x2 := frozen_of_row _ b 2 _ _ HM4.out; have HO4 := hid ho4; have HQ4 := hid hq4; have HK4 := hid hk4; clear ho4 hq4 hk4)
        | fail)
      clear c1 c2 z1 z2 y2 x2
      obtain ⟨w5, hw5⟩ : ∃ z, z = w4.setCell ⟨b, 2, none⟩ (.slice (some ⟨q, 0, none⟩) N C') := ⟨_, rfl⟩
      rw [← hw5]
      have hm5 : w5.heap[b]? = some (.cells #[.int .i64 size, .int .i64 left, .slice (some ⟨q, 0, none⟩) N C'] 114 (0, 0)) := by rw [hw5]; exact (setCell_heapS _ _ _ _ _ _ _ HM4.out).trans (by simp)
      have c1 := (cell_of_row _ b 1 _ _ _ hm5).trans (show _ = some (Value.int .i64 left) from rfl)
      have z1 := frozen_of_row _ b 1 _ _ hm5
      have HO5 := hid (owns_by (w' := w5) HO4.out (fun k hk => by rw [hw5]; exact setCell_else w4 b 2 k _ (owns_ne HO4.out HM4.out (by decide) k hk)))
      have HK5 := hid (show Keeps (fun k => k = b ∨ k = g) w w5 by
        rw [hw5]
        refine Keeps.setCell (p := ⟨b, 2, none⟩) ?_ (fun _ => .inl rfl) _
        have k1 : Keeps (fun k => k = g) w w3 := Keeps.of_below (HB1.out.trans (HS2.out.2.mono HB1.out.size)) (fun k h1 h2 => by omega)
        exact (k1.trans HK4.out).mono (fun _ _ e => .inr e))
      have HM5 := hid hm5
      have HQ5 := hid (show q = g ∨ w.heap.size ≤ q from HQ4.out.imp id (fun e => by have := HB1.out.size; have := HS2.out.2.size; omega))
      have HFIN := hid (show List.take K F ++ V ++ List.drop (K + 1) F = List.take K F ++ unrun f u i ++ List.drop (K + 1) F by rw [HVU.out])
      clear hw5 hm5
      go_wp2_with fail
      go_ret
      have hm6 := (setCell_heapS w5 b 1 _ _ _ (.int .i64 (left - 1)) HM5.out).trans (show _ = some (Obj.cells #[.int .i64 size, .int .i64 (left - 1), .slice (some ⟨q, 0, none⟩) N C'] 114 (0, 0)) by simp)
      have ho6 := owns_by (w' := w5.setCell ⟨b, 1, none⟩ (.int .i64 (left - 1))) HO5.out (fun k hk => setCell_else w5 b 1 k (.int .i64 (left - 1)) (owns_ne HO5.out HM5.out (by decide) k hk))
      obtain ⟨sp', hG, hcc⟩ := MG.of_own hm6 H1.out.lob ho6
      rw [HFIN.out] at hG
      exact ⟨rfl, ⟨q, C', sp', hG, hcc, HQ5.out⟩, HK5.out.setCell (p := ⟨b, 1, none⟩) (fun _ => .inl rfl) _⟩

end Go.Proofs.Ytbagpckiegpalaa
