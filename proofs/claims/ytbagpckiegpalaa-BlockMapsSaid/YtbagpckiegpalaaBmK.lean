/-
  Layer 6: a map of places: Take, whole.
-/
import Derived.Test.YtbagpckiegpalaaBmJ
namespace Go.Proofs.Ytbagpckiegpalaa
open Go.RowKit
set_option linter.unusedVariables false
set_option linter.unusedSimpArgs false

set_option maxRecDepth 100000 in
set_option maxHeartbeats 4000000 in
/-- TAKE of n places where there are as many. -/
theorem take_in (w : World) (lo b g n : Nat) (size left : Int) (C : Nat) (F : List (Int × Int)) (sp : List Value) (h : MG w lo b g size left F C sp) (hC : C ≤ maxLen) (hn : F.length ≤ 1000000) (hlw : lo ≤ w.heap.size) (hF : RunsFrom 0 F 1000000) (hs : runSum F = left) (hnl : (n : Int) ≤ left) (hl : left ≤ 1000000) :
    Calls Try.prog 35 #[.pointer (some ⟨b, 0, none⟩), .int .i64 n] w fun e w' => ∃ ua uc, MapPost w lo b g size (left - n) (takeR F n) (.tuple #[.slice ua n uc, .bool true]) e w' ∧ w'.ownsRow w.heap.size 3 1 (.slice ua n uc) n ((firstsR F n).map (Value.int .i64)) := by
  obtain ⟨⟨c0, c1, c2⟩, -, -, -⟩ := h.cells
  have hC' : C ≤ 9223372036854775807 := by unfold maxLen at hC; exact hC
  have H := hid h
  have HBG := hid (show b ≠ g by
    intro e
    have h1 := h.map
    rw [e, h.run] at h1
    simp at h1)
  have HM := hid (show C ≤ maxLen ∧ F.length ≤ 1000000 ∧ lo ≤ w.heap.size ∧ RunsFrom 0 F 1000000 ∧ runSum F = left ∧ (n : Int) ≤ left from ⟨hC, hn, hlw, hF, hs, hnl⟩)
  obtain ⟨N, hN⟩ : ∃ N, N = F.length := ⟨_, rfl⟩
  rw [← hN] at c2
  have HN := hid hN
  have hn0 : ¬ (n : Int) < 0 := by omega
  have hnm : n ≤ 1000000 := by omega
  have HNM := hid hnm
  have hmin : (if left < 2147483647 then left else (2147483647 : Int)) = left := if_pos (by omega)
  have hmin2 : (if 2147483647 < left then (2147483647 : Int) else left) = left := if_neg (by omega)
  have hgt : decide ((n : Int) > left) = false := decide_eq_false (by omega)
  have hgt2 : ¬ left < (n : Int) := by omega
  have hNC : (N : Int) ≤ (C : Int) := by have := h.cap; omega
  have HNC := hid (show N ≤ C by omega)
  clear h hC hn hlw hF hs hN
  go_enter Try.func35, Try.ntmps35
  go_wp2_with (first
    | (refine mkI rfl (.const (.int .i64 0)) (.tmp 24) rfl w.heap.size .i64 .i64 (n : Int) n rfl rfl rfl HNM.out (Nat.le_refl _) ?_; intro w1 ho hb1)
    | fail)
  have HT0 := hid (show OutRel w b g size left F N C sp n (.slice (some ⟨w.heap.size, 0, none⟩) 0 n) (.int .i64 0) w1 from
    ⟨_, _, 0, 0, F, rfl, rfl, Nat.zero_le _, Nat.zero_le _, ⟨by rw [HN.out]; exact (H.out.below hb1).map, (H.out.below hb1).run, HN.out.symm, by rw [(takeR_zero HM.out.2.2.2.1).2]; exact ho, Keeps.of_below hb1 (fun k h1 h2 => by omega)⟩, by rw [(takeR_zero HM.out.2.2.2.1).1]; rfl⟩)
  clear c0 c1 c2 ho hb1 hmin hmin2 hgt hgt2
  go_loopw [6, 7] (fun x y wr => OutRel w b g size left F N C sp n x y wr) (fun x _ _ => n - slLen x)
  case atStart => exact HT0.out
  case round =>
    obtain ⟨ua, uc, k, W, X, rfl, rfl, hkn, hWN, hT, hX⟩ := hrel
    have HT := hid hT
    have HX := hid hX
    have HKL := hid (show (firstsR F k).length = k from firstsR_len HM.out.2.2.2.1 (by have := HM.out.2.2.2.2; omega))
    have e2 : wr.cell? ⟨b, 2, none⟩ = some (.slice (some ⟨g, 0, none⟩) N C) := (cell_of_row _ b 2 _ _ _ hT.map).trans rfl
    clear hT hX
    by_cases hlt : k < n
    · obtain ⟨f0, u0, R, hR, hfu, hf0, hu0⟩ := takeR_head (k := k) HM.out.2.2.2.1 (by have := HM.out.2.2.2.2; omega)
      obtain ⟨hXW, hRX⟩ := drop_head (HX.out.trans hR)
      have hWl : W < N := by have := (List.getElem?_eq_some_iff.1 hXW).1; have := HT.out.len; omega
      have HR0 := hid (show InRel w b g size left F N C sp n W k (.slice ua k uc) wr from ⟨ua, uc, k, X, f0, u0, rfl, Nat.le_refl _, Nat.le_of_lt hlt, .inr hfu, HT.out, hXW, hf0, by omega, hu0, .inl ⟨hfu, by rw [hR, hRX]⟩⟩)
      have hWi : (W : Int) < (N : Int) := by omega
      have HWL := hid hWl
      have HLT := hid hlt
      clear hR hfu hf0 hu0 hXW hRX hWl hWN
      go_upto_region 7 with fail
      obtain ⟨wo, hwo⟩ : ∃ z, z = wr := ⟨_, rfl⟩
      rw [← hwo] at HR0 ⊢
      clear e2 hwo HT HX HKL
      go_loopw [6] (fun x wr => InRel w b g size left F N C sp n W k x wr) (fun x _ => n - slLen x)
      case atStart => exact HR0.out
      case round =>
        obtain ⟨ub, uq, k', X', f, u, rfl, hkk, hkn', hor, hT', hXW, hf, hfu, hu, hcs⟩ := hrel
        have HT2 := hid hT'
        have HOR := hid hor
        have HCS := hid hcs
        have HXW := hid hXW
        have HKK := hid hkk
        have HKL := hid (show (firstsR F k').length = k' from firstsR_len HM.out.2.2.2.1 (by have := HM.out.2.2.2.2; omega))
        obtain ⟨e3, e4, z3⟩ := hT'.at W f u hXW
        clear hT' hor hcs hXW hkk
        by_cases h1 : f < u
        · by_cases h2 : k' < n
          · have d1 : decide (f < u) = true := decide_eq_true h1
            have d2 : decide (k' < n) = true := decide_eq_true h2
            have d3 : (k' : Int) < (n : Int) := by omega
            go_upto_region 7 with fail
            go_quiet (fail)
            have HT3 := hid (HT2.out.drewN nq)
            obtain ⟨wq, hwq⟩ : ∃ z, z = wr.drewN nq := ⟨_, rfl⟩
            rw [← hwq] at HT3 ⊢
            clear hwq e3 e4 z3 d1 d2 d3
            obtain ⟨e3, e4, z3⟩ := HT3.out.at W f u HXW.out
            obtain ⟨ad, cp, w2, hrun, hT4⟩ := tkg_app (f := f) HT3.out HKL.out (by have := HNM.out; omega)
            have HRUN := hid hrun
            have HT4 := hid hT4
            obtain ⟨q3, q4, z4⟩ := hT4.at W f u HXW.out
            have hwr : IntKind.i64.wrap (f + 1) = f + 1 := by rw [IntKind.wrap_i64]; omega
            clear hrun hT4
            go_wp2_with (first
              | (at_builtin; refine ap_run rfl 70 70 (.tmp 51) (.tmp 56) rfl _ _ _ _ rfl rfl HRUN.out ?_)
              | fail)
            have hst := takeR_one (k := k') (f := f) (u := u) (R := X'.drop (W + 1)) HM.out.2.2.2.1 (by
              rcases HCS.out with ⟨_, e⟩ | ⟨e, _⟩
              · exact e
              · omega)
            have hT5 := tkg_set (f' := f + 1) HT4.out HBG.out HXW.out
            rw [← hst.2] at hT5
            have hWl := (List.getElem?_eq_some_iff.1 HXW.out).1
            have hdr : (X'.set W (f + 1, u)).drop (W + 1) = X'.drop (W + 1) := by rw [List.drop_set_of_lt (by omega)]
            go_roundw
            case rel =>
              refine ⟨ad, cp, k' + 1, _, f + 1, u, rfl, by have := HKK.out; omega, by omega, .inl (by have := HKK.out; omega), hT5, by simp [hWl], by omega, by omega, hu, ?_⟩
              rw [hdr]
              by_cases h3 : f + 1 < u
              · exact .inl ⟨h3, by rw [hst.1, if_pos h3]⟩
              · exact .inr ⟨by omega, by rw [hst.1, if_neg h3]⟩
            case measure => simp [slLen]; omega
          · obtain rfl : k' = n := by omega
            have d1 : decide (f < u) = true := decide_eq_true h1
            have d2 : decide (k' < k') = false := decide_eq_false (by omega)
            have d4 : (f = u) = False := eq_false (by omega)
            have d5 : (f == u) = false := by rw [beq_eq_false_iff_ne]; omega
            have HTK := hid (show takeR F k' = X'.drop W by
              rcases HCS.out with ⟨_, e⟩ | ⟨e, _⟩
              · rw [e]
                obtain ⟨hl1, hl2⟩ := List.getElem?_eq_some_iff.1 HXW.out
                rw [List.drop_eq_getElem_cons hl1, hl2]
              · omega)
            go_upto_region 7 with fail
            go_quiet (fail)
            have HT3 := hid (HT2.out.drewN nq)
            obtain ⟨wq, hwq⟩ : ∃ z, z = wr.drewN nq := ⟨_, rfl⟩
            rw [← hwq] at HT3 ⊢
            clear hwq e3 e4 z3 d1 d2
            obtain ⟨e3, e4, z3⟩ := HT3.out.at W f u HXW.out
            go_upto_region 10 with fail
            go_quiet (fail)
            go_wp2_with fail
            go_roundw
            case rel => exact ⟨ub, uq, k', W, X', rfl, rfl, Nat.le_refl _, by have := HWL.out; omega, HT3.out.drewN _, HTK.out.symm⟩
            case measure => have := HLT.out; simp [slLen]; omega
        · obtain rfl : f = u := by omega
          have d1 : decide (f < f) = false := decide_eq_false (by omega)
          have HK2 := hid (show k < k' by
            rcases HOR.out with e | e
            · exact e
            · omega)
          have HTK := hid (show takeR F k' = X'.drop (W + 1) by
            rcases HCS.out with ⟨e, _⟩ | ⟨_, e⟩
            · omega
            · exact e)
          have hww : IntKind.i64.wrap ((W : Int) + 1) = (W : Int) + 1 := by have := HWL.out; have := HN.out; have := HM.out.2.1; rw [IntKind.wrap_i64]; omega
          have hww2 := w64m1 W (by have := HWL.out; have := HN.out; have := HM.out.2.1; omega)
          go_upto_region 7 with fail
          go_quiet (fail)
          have HT3 := hid (HT2.out.drewN nq)
          obtain ⟨wq, hwq⟩ : ∃ z, z = wr.drewN nq := ⟨_, rfl⟩
          rw [← hwq] at HT3 ⊢
          clear hwq e3 e4 z3 d1
          obtain ⟨e3, e4, z3⟩ := HT3.out.at W f f HXW.out
          go_upto_region 10 with fail
          go_quiet (fail)
          go_wp2_with fail
          go_roundw
          case rel => exact ⟨ub, uq, k', W + 1, X', rfl, by go_num, hkn', by have := HWL.out; omega, HT3.out.drewN _, HTK.out.symm⟩
          case measure => have := HK2.out; simp [slLen]; omega
    · obtain rfl : k = n := by omega
      have hMGr : MG wr lo b g size left X C sp := ⟨by rw [HT.out.len]; exact HT.out.map, HT.out.run, H.out.lob, H.out.log, by have := H.out.cap; have := HT.out.len; have := HN.out; omega⟩
      have hcall := delete_any wr lo g N C W (runCells X) (by have := hMGr.own HM.out.1; rw [HT.out.len] at this; exact this) hWN (by rw [HN.out]; exact HM.out.2.1) (runCells_one X)
      rw [runCells_drop, HX.out] at hcall
      obtain ⟨N2, hN2⟩ : ∃ N2, N2 = N - W := ⟨_, rfl⟩
      rw [← hN2] at hcall
      have HD := hid hcall
      have HBL := hid (show b < wr.heap.size from (Array.getElem?_eq_some_iff.1 HT.out.map).1)
      clear hcall hMGr hN2 hlt
      go_upto_region 13 with (first
        | (go_at_call 54; refine (HD.out).mono ?_; rintro e w4 ⟨rfl, ho4, hk4⟩; have HM4 := hid ((hk4.block b HBL.out HBG.out).trans HT.out.map); have y2 := (cell_of_row _ b 2 _ _ _ HM4.out).trans (show _ = some (Value.slice (some ⟨g, 0, none⟩) N C) from rfl); have x2 := frozen_of_row _ b 2 _ _ HM4.out; have HO4 := hid ho4; have HK4 := hid hk4; clear ho4 hk4)
        | fail)
      clear e2 y2 x2
      obtain ⟨w5, hw5⟩ : ∃ z, z = w4.setCell ⟨b, 2, none⟩ (.slice (some ⟨g, 0, none⟩) N2 C) := ⟨_, rfl⟩
      rw [← hw5]
      have hm5 : w5.heap[b]? = some (.cells #[.int .i64 size, .int .i64 left, .slice (some ⟨g, 0, none⟩) N2 C] 114 (0, 0)) := by rw [hw5]; exact (setCell_heapS _ _ _ _ _ _ _ HM4.out).trans (by simp)
      have c1 := (cell_of_row _ b 1 _ _ _ hm5).trans (show _ = some (Value.int .i64 left) from rfl)
      have z1 := frozen_of_row _ b 1 _ _ hm5
      have HO5 := hid (owns_by (w' := w5) HO4.out (fun q hq => by rw [hw5]; exact setCell_else w4 b 2 q _ (owns_ne HO4.out HM4.out (by decide) q hq)))
      have hown4 : w4.ownsRow w.heap.size 3 1 (.slice ua k uc) (firstsR F k).length ((firstsR F k).map (Value.int .i64)) := owns_by HT.out.own (fun q hq => HK4.out.block q (World.ownsRow.lt HT.out.own q hq).2 (owns_ne HT.out.own HT.out.run (by decide) q hq))
      have HL5 := hid (owns_by (w' := w5) hown4 (fun q hq => by rw [hw5]; exact setCell_else w4 b 2 q _ (owns_ne hown4 HM4.out (by decide) q hq)))
      have HK5 := hid (show Keeps (fun q => q = b ∨ q = g) w w5 by
        rw [hw5]
        refine Keeps.setCell (p := ⟨b, 2, none⟩) ?_ (fun _ => .inl rfl) _
        exact (HT.out.kp.trans HK4.out).mono (fun _ _ e => .inr e))
      have HM5 := hid hm5
      clear hw5 hm5 hown4
      go_wp2_with fail
      go_ret2
      have hm6 := (setCell_heapS w5 b 1 _ _ _ (.int .i64 (left - (k : Int))) HM5.out).trans (show _ = some (Obj.cells #[.int .i64 size, .int .i64 (left - (k : Int)), .slice (some ⟨g, 0, none⟩) N2 C] 114 (0, 0)) by simp)
      have ho6 := owns_by (w' := w5.setCell ⟨b, 1, none⟩ (.int .i64 (left - (k : Int)))) HO5.out (fun q hq => setCell_else w5 b 1 q (.int .i64 (left - (k : Int))) (owns_ne HO5.out HM5.out (by decide) q hq))
      obtain ⟨sp', hG, hcc⟩ := MG.of_own hm6 H.out.lob ho6
      have hl6 := owns_by (w' := w5.setCell ⟨b, 1, none⟩ (.int .i64 (left - (k : Int)))) HL5.out (fun q hq => setCell_else w5 b 1 q (.int .i64 (left - (k : Int))) (owns_ne HL5.out HM5.out (by decide) q hq))
      rw [HKL.out] at hl6
      exact ⟨ua, uc, ⟨rfl, ⟨g, C, sp', hG, hcc, .inl rfl⟩, HK5.out.setCell (p := ⟨b, 1, none⟩) (fun _ => .inl rfl) _⟩, hl6⟩

end Go.Proofs.Ytbagpckiegpalaa
