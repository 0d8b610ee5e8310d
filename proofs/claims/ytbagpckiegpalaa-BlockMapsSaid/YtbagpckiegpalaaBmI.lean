/-
  Layer 6: a map of places: Free of a place that isn't free. (genbmi.py writes it.)
-/
import Derived.Test.YtbagpckiegpalaaBmH
import Derived.Test.YtbagpckiegpalaaInw
namespace Go.Proofs.Ytbagpckiegpalaa
open Go.RowKit
set_option linter.unusedVariables false
set_option linter.unusedSimpArgs false

theorem w64m (k : Nat) (h : k ≤ 1000001) : wrap64 (k : Int) = (k : Int) := by
  unfold wrap64
  omega

theorem w64m1 (k : Nat) (h : k ≤ 1000001) : wrap64 ((k : Int) + 1) = (k : Int) + 1 := by
  unfold wrap64
  omega

/-- REPLACE of none, one or two by one. -/
theorem rep_free (w : World) (lo g n C i j h : Nat) (b0 b1 : Int) (F : List (Int × Int)) (hx : w.ownsRow lo 116 2 (.slice (some ⟨g, 0, none⟩) n C) n (runCells F)) (hh : w.heap[h]? = some (.cells #[.int .i64 b0, .int .i64 b1] 116 (0, 0))) (hne : h ≠ g) (hbase : lo ≤ w.heap.size) (hij : i ≤ j) (hj : j ≤ n) (hn : n ≤ 1000000) :
    Calls Try.prog 53 #[.slice (some ⟨g, 0, none⟩) n C, .int .i64 i, .int .i64 j, .slice (some ⟨h, 0, none⟩) 1 1] w (RepPost w lo g (i + 1 + (n - j)) (runCells (F.take i ++ [(b0, b1)] ++ F.drop j))) := by
  have e : runCells (F.take i ++ [(b0, b1)] ++ F.drop j) = (runCells F).take (i * 2) ++ [.int .i64 b0, .int .i64 b1] ++ (runCells F).drop (j * 2) := by
    rw [runCells_append, runCells_append, runCells_take, runCells_drop]; rfl
  rw [e]
  rcases Nat.lt_or_ge i j with hlt | hge
  · exact rep_any w lo g n C i j 1 1 _ _ _ hx (.inr ⟨h, 1, _, rfl, hne, hh, rfl, rfl, two_one b0 b1⟩) hbase hlt hj (by omega) hn (runCells_one F)
  · obtain rfl : i = j := by omega
    rw [show i + 1 + (n - i) = n + 1 by omega]
    exact rep_ins w lo g n C h i b0 b1 _ hx hh hne hbase hj hn (runCells_one F)

set_option maxRecDepth 100000 in
set_option maxHeartbeats 4000000 in
/-- FREE of a place that isn't free: joined with the runs that it touches. -/
theorem free_in (w : World) (lo b g K K1 K2 : Nat) (size left i jf ju : Int) (C : Nat) (F : List (Int × Int)) (sp : List Value) (jl jr : Bool) (h : MG w lo b g size left F C sp) (hC : C ≤ maxLen) (hn : F.length ≤ 1000000) (hlw : lo ≤ w.heap.size)
    (hfind : Calls Try.prog 52 #[.pointer (some ⟨b, 0, none⟩), .int .i64 i] w fun e w' => e = .returned (.tuple #[.int .i64 K, .bool false]) ∧ Below w.heap.size w w')
    (hi0 : 0 ≤ i) (hi1 : i < size) (hs : size ≤ 1000000) (hl0 : 0 ≤ left) (hl1 : left ≤ 1000000) (hK : K ≤ F.length)
    (hL : (jl = false ∧ K1 = K ∧ jf = i ∧ (K = 0 ∨ ∃ k0 f0 u0, K = k0 + 1 ∧ F[k0]? = some (f0, u0) ∧ u0 ≠ i)) ∨ (jl = true ∧ ∃ f0, K = K1 + 1 ∧ F[K1]? = some (f0, i) ∧ jf = f0))
    (hR : (jr = false ∧ K2 = K ∧ ju = i + 1 ∧ (K = F.length ∨ ∃ f1 u1, F[K]? = some (f1, u1) ∧ f1 ≠ i + 1)) ∨ (jr = true ∧ K2 = K + 1 ∧ F[K]? = some (i + 1, ju))) :
    Calls Try.prog 34 #[.pointer (some ⟨b, 0, none⟩), .int .i64 i] w (MapPost w lo b g size (left + 1) (F.take K1 ++ [(jf, ju)] ++ F.drop K2) (.bool true)) := by
  obtain ⟨⟨c0, c1, c2⟩, -, -, -⟩ := h.cells
  have HF := hid hfind
  have H := hid h
  have HM := hid (show C ≤ maxLen ∧ F.length ≤ 1000000 ∧ lo ≤ w.heap.size from ⟨hC, hn, hlw⟩)
  have HBG := hid (show b ≠ g by
    intro e
    have h1 := h.map
    rw [e, h.run] at h1
    simp at h1)
  have HL := hid hL
  have HR := hid hR
  have HKF := hid hK
  obtain ⟨F2, hF2⟩ : ∃ F2, F2 = F.take K1 ++ [(jf, ju)] ++ F.drop K2 := ⟨_, rfl⟩
  rw [← hF2]
  have HF2 := hid hF2
  obtain ⟨n, hnn⟩ : ∃ n, n = F.length := ⟨_, rfl⟩
  rw [← hnn] at c2
  have HN := hid hnn
  have q1 : ¬ i < 0 := by omega
  have q2 : ¬ size ≤ i := by omega
  have hKn : K ≤ n := by omega
  clear hC hlw hfind hL hR hnn hF2 hn hK h
  go_enter Try.func34, Try.ntmps34
  go_upto_region 4 with (first
    | (go_at_call 52; refine (HF.out).mono ?_; rintro e w1 ⟨rfl, hb1⟩)
    | fail)
  have H1 := hid (H.out.below hb1)
  have HB1 := hid hb1
  clear hb1 c0 c1 c2
  have HM1 := hid (show w1.heap[b]? = some (.cells #[.int .i64 size, .int .i64 left, .slice (some ⟨g, 0, none⟩) n C] 114 (0, 0)) by rw [HN.out]; exact H1.out.map)
  have hwi : IntKind.i64.wrap (i + 1) = i + 1 := by rw [IntKind.wrap_i64]; omega
  go_upto_region 7 with fail
  obtain ⟨wj, hwj⟩ : ∃ z, z = w1.alloc (.cells #[.int .i64 i, .int .i64 (i + 1)] 116) := ⟨_, rfl⟩
  rw [← hwj]
  have HBj := hid (show Below w1.heap.size w1 wj by rw [hwj]; exact (Below.refl _ _).alloc (Nat.le_refl _) _)
  have hj0 : wj.heap[w1.heap.size]? = some (.cells #[.int .i64 i, .int .i64 (i + 1)] 116 (0, 0)) := by rw [hwj]; exact heap_alloc_new _ _
  obtain ⟨j, hj⟩ : ∃ j, j = w1.heap.size := ⟨_, rfl⟩
  rw [← hj] at hj0
  simp only [← hj]
  have HJ0 := hid hj0
  have HJW := hid hj
  have HBL1 := hid (show b < w1.heap.size from (Array.getElem?_eq_some_iff.1 HM1.out).1)
  clear hwj hj hj0
  go_upto_region 8 with fail
  have hcellsj := ((HBj.out.block b HBL1.out).trans HM1.out)
  have c2 : wj.cell? ⟨b, 2, none⟩ = some (.slice (some ⟨g, 0, none⟩) n C) := (cell_of_row _ _ _ _ _ _ hcellsj).trans rfl
  have HCJ := hid hcellsj
  have HHj := hid (H1.out.below HBj.out)
  clear hcellsj
  go_cut [51] from 39 to 51 (fun v wx => v = .bool jl ∧ wx = wj)
  case first =>
    rcases HL.out with ⟨rfl, e1, e2, rfl | ⟨k0, f0, u0, hk, hf, hu⟩⟩ | ⟨rfl, f0, hk, hf, e1⟩
    · go_wp2_with fail
      go_meet
      case rel => exact ⟨rfl, rfl⟩
    · have d1 := (HHj.out.at k0 f0 u0 hf).2
      have p1 : decide ((K : Int) > 0) = true := decide_eq_true (by omega)
      have p5 : (0 : Int) < (K : Int) := by omega
      have p6 : 0 < K := by omega
      have p2 : (K : Int) - 1 = (k0 : Int) := by omega
      have p3 : (k0 : Int) < (n : Int) := by omega
      have p4 : (u0 = i) = False := eq_false hu
      have p7 : (u0 == i) = false := by rw [beq_eq_false_iff_ne]; exact hu
      have p9 := w64m k0 (by have := HM.out.2.1; have := HN.out; omega)
      clear hk hf hu e1 e2
      go_wp2_with fail
      go_meet
      case rel => exact ⟨rfl, rfl⟩
    · have d1 := (HHj.out.at K1 f0 i hf).2
      have p1 : decide ((K : Int) > 0) = true := decide_eq_true (by omega)
      have p5 : (0 : Int) < (K : Int) := by omega
      have p6 : 0 < K := by omega
      have p2 : (K : Int) - 1 = (K1 : Int) := by omega
      have p3 : (K1 : Int) < (n : Int) := by omega
      have p9 := w64m K1 (by have := HM.out.2.1; have := HN.out; omega)
      clear hk hf e1
      go_wp2_with fail
      go_meet
      case rel => exact ⟨rfl, rfl⟩
  case rest =>
    obtain ⟨rfl, rfl⟩ := hcut
    go_upto_if 51 with fail
    go_cut [8] from 52 to 62 (fun v wx => v = .int .i64 (K1 : Int) ∧ wx.heap[j]? = some (.cells #[.int .i64 jf, .int .i64 (i + 1)] 116 (0, 0)) ∧ Below w1.heap.size w1 wx)
    case first =>
      rcases HL.out with ⟨rfl, e1, e2, -⟩ | ⟨rfl, f0, hk, hf, e1⟩
      · subst e1
        subst e2
        go_wp2_with fail
        go_meet
        case rel => exact ⟨rfl, HJ0.out, HBj.out⟩
      · have d0 := (HHj.out.at K1 f0 i hf).1
        have p2 : (K : Int) - 1 = (K1 : Int) := by omega
        have p3 : (K1 : Int) < (n : Int) := by omega
        have p9 := w64m K1 (by have := HM.out.2.1; have := HN.out; omega)
        have zj := frozen_of_row _ j 0 _ _ HJ0.out
        have yj := (cell_of_row _ j 0 _ _ _ HJ0.out).trans (show _ = some (Value.int .i64 i) from rfl)
        subst e1
        clear hk hf
        go_wp2_with fail
        go_meet
        case rel => exact ⟨rfl, (setCell_heapS _ _ _ _ _ _ _ HJ0.out).trans (by simp), HBj.out.setCell (Nat.le_of_eq HJW.out.symm) _⟩
    case rest =>
      obtain ⟨hv8, hJ1, hB1x⟩ := hcut
      subst hv8
      obtain ⟨wl, hwl⟩ : ∃ z, z = wc := ⟨_, rfl⟩
      subst hwl
      have HJ1 := hid hJ1
      have HBl := hid hB1x
      have HCl := hid ((hB1x.block b HBL1.out).trans HM1.out)
      have HHl := hid (H1.out.below hB1x)
      clear hJ1 hB1x c2
      have c2 : wl.cell? ⟨b, 2, none⟩ = some (.slice (some ⟨g, 0, none⟩) n C) := (cell_of_row _ _ _ _ _ _ HCl.out).trans rfl
      go_upto_region 11 with fail
      go_cut [82] from 70 to 82 (fun v wx => v = .bool jr ∧ wx = wl)
      case first =>
        rcases HR.out with ⟨rfl, e1, e2, hk | ⟨f1, u1, hf, hu⟩⟩ | ⟨rfl, hk, hf⟩
        · have hkl : K = n := by have := HN.out; omega
          have p1 : decide (K < n) = false := decide_eq_false (by omega)
          have p2 : ¬ (K : Int) < (n : Int) := by omega
          clear hk e1 e2 hkl
          go_wp2_with fail
          go_meet
          case rel => exact ⟨rfl, rfl⟩
        · have d0 := (HHl.out.at K f1 u1 hf).1
          have hkl : K < n := by have := (List.getElem?_eq_some_iff.1 hf).1; have := HN.out; omega
          have p1 : decide (K < n) = true := decide_eq_true (by omega)
          have p2 : (K : Int) < (n : Int) := by omega
          have p4 : (f1 = i + 1) = False := eq_false hu
          have p7 : (f1 == i + 1) = false := by rw [beq_eq_false_iff_ne]; exact hu
          clear hf hu e1 e2 hkl
          go_wp2_with fail
          go_meet
          case rel => exact ⟨rfl, rfl⟩
        · have d0 := (HHl.out.at K (i + 1) ju hf).1
          have hkl : K < n := by have := (List.getElem?_eq_some_iff.1 hf).1; have := HN.out; omega
          have p1 : decide (K < n) = true := decide_eq_true (by omega)
          have p2 : (K : Int) < (n : Int) := by omega
          clear hf hk hkl
          go_wp2_with fail
          go_meet
          case rel => exact ⟨rfl, rfl⟩
      case rest =>
        obtain ⟨rfl, rfl⟩ := hcut
        go_upto_if 82 with fail
        go_cut [9] from 83 to 93 (fun v wx => v = .int .i64 (K2 : Int) ∧ wx.heap[j]? = some (.cells #[.int .i64 jf, .int .i64 ju] 116 (0, 0)) ∧ Below w1.heap.size w1 wx)
        case first =>
          rcases HR.out with ⟨rfl, e1, e2, -⟩ | ⟨rfl, hk, hf⟩
          · subst e1
            subst e2
            go_wp2_with fail
            go_meet
            case rel => exact ⟨rfl, HJ1.out, HBl.out⟩
          · have d1 := (HHl.out.at K (i + 1) ju hf).2
            have hkl : K < n := by have := (List.getElem?_eq_some_iff.1 hf).1; have := HN.out; omega
            have p2 : (K : Int) < (n : Int) := by omega
            have zj := frozen_of_row _ j 1 _ _ HJ1.out
            have yj := (cell_of_row _ j 1 _ _ _ HJ1.out).trans (show _ = some (Value.int .i64 (i + 1)) from rfl)
            have p9 := w64m1 K (by have := HM.out.2.1; have := HN.out; omega)
            have p8 : IntKind.i64.wrap ((K : Int) + 1) = (K : Int) + 1 := by have := HM.out.2.1; have := HN.out; rw [IntKind.wrap_i64]; omega
            subst hk
            clear hf hkl
            go_wp2_with fail
            go_meet
            case rel => exact ⟨by go_num, (setCell_heapS _ _ _ _ _ _ _ HJ1.out).trans (by simp), HBl.out.setCell (Nat.le_of_eq HJW.out.symm) _⟩
        case rest =>
          obtain ⟨hv9, hJ2, hB2x⟩ := hcut
          subst hv9
          obtain ⟨w2, hw2⟩ : ∃ z, z = wc := ⟨_, rfl⟩
          subst hw2
          have HJ := hid hJ2
          have HB2 := hid hB2x
          have HM2 := hid ((hB2x.block b HBL1.out).trans HM1.out)
          have H2 := hid (H1.out.below hB2x)
          clear hJ2 hB2x c2
          have HBL := hid (show b < w2.heap.size from (Array.getElem?_eq_some_iff.1 HM2.out).1)
          have HGL := hid (show g < w2.heap.size from (Array.getElem?_eq_some_iff.1 H2.out.run).1)
          have HJL := hid (show j < w2.heap.size from (Array.getElem?_eq_some_iff.1 HJ.out).1)
          obtain ⟨N0, hN0⟩ : ∃ N0, N0 = K1 + 1 + (n - K2) := ⟨_, rfl⟩
          have HCALL := hid (fun (W : World) (h : Nat) (hW : Below w2.heap.size w2 W) (hh : W.heap[h]? = some (.cells #[.int .i64 jf, .int .i64 ju] 116 (0, 0))) (hhg : h ≠ g) => by
            have hx : W.ownsRow lo 116 2 (.slice (some ⟨g, 0, none⟩) n C) n (runCells F) := by rw [HN.out]; exact (H2.out.below hW).own HM.out.1
            have hK12 : K1 ≤ K2 ∧ K2 ≤ n := by
              have h1 : K1 ≤ K := by rcases HL.out with ⟨_, e, _⟩ | ⟨_, _, e, _⟩ <;> omega
              rcases HR.out with ⟨_, e, _⟩ | ⟨_, e, hf⟩
              · omega
              · have := (List.getElem?_eq_some_iff.1 hf).1
                have := HN.out
                omega
            have hc := rep_free W lo g n C K1 K2 h jf ju F hx hh hhg (by have := HM.out.2.2; have := HB1.out.size; have := HB2.out.size; have := hW.size; omega) hK12.1 hK12.2 (by rw [HN.out]; exact HM.out.2.1)
            rw [← HF2.out, ← hN0] at hc
            exact hc)
          clear hN0
          go_upto_region 14 with fail
          refine Orders.begins (C := []) (by kernel_rfl) ?_
          refine Orders.inv_at (I := fun L A a w => ∃ (b0 b1 b2 b3 b4 b5 b6 b7 b8 b9 b10 b11 b12 : Bool) (v94 v95 v96 v97 v98 v99 v100 v101 v102 v103 v104 v105 : Value), L = #[b0, b1, b2, b3, b4, b5, b6, b7, b8, b9, b10, b11, b12] ∧ a = ((((((((((((A.put (some 94) v94).put (some 95) v95).put (some 96) v96).put (some 97) v97).put (some 98) v98).put (some 99) v99).put (some 100) v100).put (some 101) v101).put (some 102) v102).put (some 103) v103).put (some 104) v104).put (some 105) v105) ∧ Keeps (fun k => k = b ∨ k = g) w2 w ∧ (b9 = false → Below w2.heap.size w2 w) ∧ (b12 = false → w.heap[b]? = w2.heap[b]?) ∧ (b12 = true → ∃ q C', w.heap[b]? = some (.cells #[.int .i64 size, .int .i64 left, .slice (some ⟨q, 0, none⟩) N0 C'] 114 (0, 0)) ∧ w.ownsRow lo 116 2 (.slice (some ⟨q, 0, none⟩) N0 C') N0 (runCells F2) ∧ (q = g ∨ w2.heap.size ≤ q)) ∧ (b12 = true → b0 = true ∧ b1 = true ∧ b2 = true ∧ b3 = true ∧ b4 = true ∧ b5 = true ∧ b6 = true ∧ b7 = true ∧ b8 = true ∧ b9 = true ∧ b11 = true) ∧ (b9 = true → b4 = true ∧ b5 = true ∧ b6 = true ∧ b8 = true) ∧ (b8 = true → b7 = true) ∧ (b0 = true → v94 = .pointer (some ⟨b, 0, none⟩)) ∧ (b1 = true → v95 = .pointer (some ⟨b, 0, none⟩)) ∧ (b2 = true → v96 = .pointer (some ⟨b, 0, none⟩)) ∧ (b3 = true → v97 = .pointer (some ⟨b, 2, none⟩)) ∧ (b4 = true → v98 = (.slice (some ⟨g, 0, none⟩) n C)) ∧ (b5 = true → v99 = .int .i64 (K1 : Int)) ∧ (b6 = true → v100 = .int .i64 (K2 : Int)) ∧ (b7 = true → v101 = (.agg #[.int .i64 jf, .int .i64 ju])) ∧ (b8 = true → (∃ h, v102 = .slice (some ⟨h, 0, none⟩) 1 1 ∧ (b9 = false → w.heap[h]? = some (.cells #[.int .i64 jf, .int .i64 ju] 116 (0, 0)) ∧ h ≠ g))) ∧ (b9 = true → (∃ q C', v103 = .slice (some ⟨q, 0, none⟩) N0 C' ∧ (b12 = false → w.ownsRow lo 116 2 (.slice (some ⟨q, 0, none⟩) N0 C') N0 (runCells F2)) ∧ (q = g ∨ w2.heap.size ≤ q))) ∧ (b10 = true → v104 = .pointer (some ⟨b, 0, none⟩)) ∧ (b11 = true → v105 = .pointer (some ⟨b, 2, none⟩))) ?start ?step ?fin (by kernel_rfl)
          case start => exact ⟨false, false, false, false, false, false, false, false, false, false, false, false, false, undef, undef, undef, undef, undef, undef, undef, undef, undef, undef, undef, undef, rfl, by simp only [Act.put, List.getElem_toArray, List.getElem_cons_succ, List.getElem_cons_zero, List.setIfInBounds_toArray, List.set_cons_zero, List.set_cons_succ], ((Keeps.refl _ _).drew), (fun _ => (Below.refl _ _).drew), (fun _ => rfl), (fun h => Bool.noConfusion h), (fun h => Bool.noConfusion h), (fun h => Bool.noConfusion h), (fun h => Bool.noConfusion h), (fun h => Bool.noConfusion h), (fun h => Bool.noConfusion h), (fun h => Bool.noConfusion h), (fun h => Bool.noConfusion h), (fun h => Bool.noConfusion h), (fun h => Bool.noConfusion h), (fun h => Bool.noConfusion h), (fun h => Bool.noConfusion h), (fun h => Bool.noConfusion h), (fun h => Bool.noConfusion h), (fun h => Bool.noConfusion h), (fun h => Bool.noConfusion h)⟩
          case step =>
            rintro L a w' i ⟨b0, b1, b2, b3, b4, b5, b6, b7, b8, b9, b10, b11, b12, v94, v95, v96, v97, v98, v99, v100, v101, v102, v103, v104, v105, rfl, rfl, W, N, N2, M, D12, D9, D8, C0, C1, C2, C3, C4, C5, C6, C7, C8, C9, C10, C11⟩ hi
            obtain ⟨hlt, hu, hn⟩ := ready_has [[], [], [1], [2], [3], [], [], [], [7], [4, 5, 6, 8], [0, 1, 2, 3, 4, 5, 6, 7, 8, 9], [0, 1, 2, 3, 4, 5, 6, 7, 8, 9, 10], [0, 1, 2, 3, 4, 5, 6, 7, 8, 9, 11]] (by kernel_rfl) (by kernel_rfl) hi
            clear hi
            have hc : i = 0 ∨ i = 1 ∨ i = 2 ∨ i = 3 ∨ i = 4 ∨ i = 5 ∨ i = 6 ∨ i = 7 ∨ i = 8 ∨ i = 9 ∨ i = 10 ∨ i = 11 ∨ i = 12 := (show ∀ i, i < 13 → (i = 0 ∨ i = 1 ∨ i = 2 ∨ i = 3 ∨ i = 4 ∨ i = 5 ∨ i = 6 ∨ i = 7 ∨ i = 8 ∨ i = 9 ∨ i = 10 ∨ i = 11 ∨ i = 12) by decide) i hlt
            clear hlt
            rcases hc with rfl | rfl | rfl | rfl | rfl | rfl | rfl | rfl | rfl | rfl | rfl | rfl | rfl
            · obtain rfl : b0 = false := hu
              clear hn
              refine wpOp_shut rfl (fun K' hK => ?_)
              simp only [Act.put, List.getElem_toArray, List.getElem_cons_succ, List.getElem_cons_zero, List.setIfInBounds_toArray, List.set_cons_zero, List.set_cons_succ]
              go_simp
              refine hK.out _ _ ⟨true, b1, b2, b3, b4, b5, b6, b7, b8, b9, b10, b11, b12, (.pointer (some ⟨b, 0, none⟩)), v95, v96, v97, v98, v99, v100, v101, v102, v103, v104, v105, rfl, by simp only [Act.put, List.getElem_toArray, List.getElem_cons_succ, List.getElem_cons_zero, List.setIfInBounds_toArray, List.set_cons_zero, List.set_cons_succ], W, N, N2, M, (fun h => absurd (D12 h) (by simp)), D9, D8, (fun _ => rfl), C1, C2, C3, C4, C5, C6, C7, C8, C9, C10, C11⟩
            · obtain rfl : b1 = false := hu
              clear hn
              refine wpOp_shut rfl (fun K' hK => ?_)
              simp only [Act.put, List.getElem_toArray, List.getElem_cons_succ, List.getElem_cons_zero, List.setIfInBounds_toArray, List.set_cons_zero, List.set_cons_succ]
              go_simp
              refine hK.out _ _ ⟨b0, true, b2, b3, b4, b5, b6, b7, b8, b9, b10, b11, b12, v94, (.pointer (some ⟨b, 0, none⟩)), v96, v97, v98, v99, v100, v101, v102, v103, v104, v105, rfl, by simp only [Act.put, List.getElem_toArray, List.getElem_cons_succ, List.getElem_cons_zero, List.setIfInBounds_toArray, List.set_cons_zero, List.set_cons_succ], W, N, N2, M, (fun h => absurd (D12 h) (by simp)), D9, D8, C0, (fun _ => rfl), C2, C3, C4, C5, C6, C7, C8, C9, C10, C11⟩
            · obtain rfl : b2 = false := hu
              obtain rfl : b1 = true := hn 1 (by decide)
              clear hn
              refine wpOp_shut rfl (fun K' hK => ?_)
              simp only [Act.put, List.getElem_toArray, List.getElem_cons_succ, List.getElem_cons_zero, List.setIfInBounds_toArray, List.set_cons_zero, List.set_cons_succ]
              have hC1 := (C1 rfl).symm
              subst hC1
              go_simp
              refine hK.out _ _ ⟨b0, true, true, b3, b4, b5, b6, b7, b8, b9, b10, b11, b12, v94, (.pointer (some ⟨b, 0, none⟩)), (.pointer (some ⟨b, 0, none⟩)), v97, v98, v99, v100, v101, v102, v103, v104, v105, rfl, by simp only [Act.put, List.getElem_toArray, List.getElem_cons_succ, List.getElem_cons_zero, List.setIfInBounds_toArray, List.set_cons_zero, List.set_cons_succ], W, N, N2, M, (fun h => absurd (D12 h) (by simp)), D9, D8, C0, C1, (fun _ => rfl), C3, C4, C5, C6, C7, C8, C9, C10, C11⟩
            · obtain rfl : b3 = false := hu
              obtain rfl : b2 = true := hn 2 (by decide)
              clear hn
              refine wpOp_shut rfl (fun K' hK => ?_)
              simp only [Act.put, List.getElem_toArray, List.getElem_cons_succ, List.getElem_cons_zero, List.setIfInBounds_toArray, List.set_cons_zero, List.set_cons_succ]
              have hC2 := (C2 rfl).symm
              subst hC2
              go_simp
              refine hK.out _ _ ⟨b0, b1, true, true, b4, b5, b6, b7, b8, b9, b10, b11, b12, v94, v95, (.pointer (some ⟨b, 0, none⟩)), (.pointer (some ⟨b, 2, none⟩)), v98, v99, v100, v101, v102, v103, v104, v105, rfl, by simp only [Act.put, List.getElem_toArray, List.getElem_cons_succ, List.getElem_cons_zero, List.setIfInBounds_toArray, List.set_cons_zero, List.set_cons_succ], W, N, N2, M, (fun h => absurd (D12 h) (by simp)), D9, D8, C0, C1, C2, (fun _ => rfl), C4, C5, C6, C7, C8, C9, C10, C11⟩
            · obtain rfl : b4 = false := hu
              obtain rfl : b3 = true := hn 3 (by decide)
              clear hn
              refine wpOp_shut rfl (fun K' hK => ?_)
              simp only [Act.put, List.getElem_toArray, List.getElem_cons_succ, List.getElem_cons_zero, List.setIfInBounds_toArray, List.set_cons_zero, List.set_cons_succ]
              have hC3 := (C3 rfl).symm
              subst hC3
              obtain rfl : b9 = false := by
                cases b9 with
                | false => rfl
                | true => exact absurd (D9 rfl) (by simp)
              have e2 : w'.cell? ⟨b, 2, none⟩ = some (.slice (some ⟨g, 0, none⟩) n C) := (cell_of_row _ _ _ _ _ _ (((N rfl).block b HBL.out).trans HM2.out)).trans rfl
              go_simp
              refine hK.out _ _ ⟨b0, b1, b2, true, true, b5, b6, b7, b8, false, b10, b11, b12, v94, v95, v96, (.pointer (some ⟨b, 2, none⟩)), ((.slice (some ⟨g, 0, none⟩) n C)), v99, v100, v101, v102, v103, v104, v105, rfl, by simp only [Act.put, List.getElem_toArray, List.getElem_cons_succ, List.getElem_cons_zero, List.setIfInBounds_toArray, List.set_cons_zero, List.set_cons_succ], W, N, N2, M, (fun h => absurd (D12 h) (by simp)), (fun h => Bool.noConfusion h), D8, C0, C1, C2, C3, (fun _ => rfl), C5, C6, C7, C8, C9, C10, C11⟩
            · obtain rfl : b5 = false := hu
              clear hn
              refine wpOp_shut rfl (fun K' hK => ?_)
              simp only [Act.put, List.getElem_toArray, List.getElem_cons_succ, List.getElem_cons_zero, List.setIfInBounds_toArray, List.set_cons_zero, List.set_cons_succ]
              go_simp
              refine hK.out _ _ ⟨b0, b1, b2, b3, b4, true, b6, b7, b8, b9, b10, b11, b12, v94, v95, v96, v97, v98, (.int .i64 (K1 : Int)), v100, v101, v102, v103, v104, v105, rfl, by simp only [Act.put, List.getElem_toArray, List.getElem_cons_succ, List.getElem_cons_zero, List.setIfInBounds_toArray, List.set_cons_zero, List.set_cons_succ], W, N, N2, M, (fun h => absurd (D12 h) (by simp)), (fun h => absurd (D9 h) (by simp)), D8, C0, C1, C2, C3, C4, (fun _ => rfl), C6, C7, C8, C9, C10, C11⟩
            · obtain rfl : b6 = false := hu
              clear hn
              refine wpOp_shut rfl (fun K' hK => ?_)
              simp only [Act.put, List.getElem_toArray, List.getElem_cons_succ, List.getElem_cons_zero, List.setIfInBounds_toArray, List.set_cons_zero, List.set_cons_succ]
              go_simp
              refine hK.out _ _ ⟨b0, b1, b2, b3, b4, b5, true, b7, b8, b9, b10, b11, b12, v94, v95, v96, v97, v98, v99, (.int .i64 (K2 : Int)), v101, v102, v103, v104, v105, rfl, by simp only [Act.put, List.getElem_toArray, List.getElem_cons_succ, List.getElem_cons_zero, List.setIfInBounds_toArray, List.set_cons_zero, List.set_cons_succ], W, N, N2, M, (fun h => absurd (D12 h) (by simp)), (fun h => absurd (D9 h) (by simp)), D8, C0, C1, C2, C3, C4, C5, (fun _ => rfl), C7, C8, C9, C10, C11⟩
            · obtain rfl : b7 = false := hu
              clear hn
              refine wpOp_shut rfl (fun K' hK => ?_)
              simp only [Act.put, List.getElem_toArray, List.getElem_cons_succ, List.getElem_cons_zero, List.setIfInBounds_toArray, List.set_cons_zero, List.set_cons_succ]
              obtain rfl : b9 = false := by
                cases b9 with
                | false => rfl
                | true => exact absurd (D8 (D9 rfl).2.2.2) (by simp)
              have e0 : w'.cell? ⟨j, 0, none⟩ = some (.int .i64 jf) := (cell_of_row _ _ _ _ _ _ (((N rfl).block j HJL.out).trans HJ.out)).trans rfl
              have e1 : w'.cell? ⟨j, 1, none⟩ = some (.int .i64 ju) := (cell_of_row _ _ _ _ _ _ (((N rfl).block j HJL.out).trans HJ.out)).trans rfl
              go_simp
              refine hK.out _ _ ⟨b0, b1, b2, b3, b4, b5, b6, true, b8, false, b10, b11, b12, v94, v95, v96, v97, v98, v99, v100, ((.agg #[.int .i64 jf, .int .i64 ju])), v102, v103, v104, v105, rfl, by simp only [Act.put, List.getElem_toArray, List.getElem_cons_succ, List.getElem_cons_zero, List.setIfInBounds_toArray, List.set_cons_zero, List.set_cons_succ], W, N, N2, M, (fun h => absurd (D12 h) (by simp)), (fun h => Bool.noConfusion h), (fun h => absurd (D8 h) (by simp)), C0, C1, C2, C3, C4, C5, C6, (fun _ => rfl), C8, C9, C10, C11⟩
            · obtain rfl : b8 = false := hu
              obtain rfl : b7 = true := hn 7 (by decide)
              clear hn
              refine wpOp_shut rfl (fun K' hK => ?_)
              simp only [Act.put, List.getElem_toArray, List.getElem_cons_succ, List.getElem_cons_zero, List.setIfInBounds_toArray, List.set_cons_zero, List.set_cons_succ]
              have hC7 := (C7 rfl).symm
              subst hC7
              obtain rfl : b9 = false := by
                cases b9 with
                | false => rfl
                | true => exact absurd (D9 rfl) (by simp)
              obtain rfl : b12 = false := by
                cases b12 with
                | false => rfl
                | true => exact absurd (D12 rfl) (by simp)
              have hN := N rfl
              go_simp
              refine hK.out _ _ ⟨b0, b1, b2, b3, b4, b5, b6, true, true, false, b10, b11, false, v94, v95, v96, v97, v98, v99, v100, ((.agg #[.int .i64 jf, .int .i64 ju])), (.slice (some ⟨w'.heap.size, 0, none⟩) 1 1), v103, v104, v105, rfl, by simp only [Act.put, List.getElem_toArray, List.getElem_cons_succ, List.getElem_cons_zero, List.setIfInBounds_toArray, List.set_cons_zero, List.set_cons_succ], (W.alloc _), (fun _ => hN.alloc hN.size _), (fun h => (heap_alloc_old _ _ (by have := hN.size; have := HBL.out; omega)).trans (N2 h)), (fun h => Bool.noConfusion h), (fun h => Bool.noConfusion h), (fun h => Bool.noConfusion h), (fun _ => rfl), C0, C1, C2, C3, C4, C5, C6, C7, (fun _ => ⟨w'.heap.size, rfl, fun _ => ⟨heap_alloc_new w' _, by have := hN.size; have := HGL.out; omega⟩⟩), (fun h => Bool.noConfusion h), C10, C11⟩
            · obtain rfl : b9 = false := hu
              obtain rfl : b4 = true := hn 4 (by decide)
              obtain rfl : b5 = true := hn 5 (by decide)
              obtain rfl : b6 = true := hn 6 (by decide)
              obtain rfl : b8 = true := hn 8 (by decide)
              clear hn
              refine wpOp_shut rfl (fun K' hK => ?_)
              simp only [Act.put, List.getElem_toArray, List.getElem_cons_succ, List.getElem_cons_zero, List.setIfInBounds_toArray, List.set_cons_zero, List.set_cons_succ]
              obtain rfl : b12 = false := by
                cases b12 with
                | false => rfl
                | true => exact absurd (D12 rfl) (by simp)
              obtain ⟨h, hC8, hh⟩ := C8 rfl
              subst hC8
              obtain rfl : b7 = true := D8 rfl
              have hC7 := (C7 rfl).symm
              subst hC7
              have hC4 := (C4 rfl).symm
              subst hC4
              have hC5 := (C5 rfl).symm
              subst hC5
              have hC6 := (C6 rfl).symm
              subst hC6
              have hN := N rfl
              obtain ⟨hh', hhg⟩ := hh rfl
              have hM := N2 rfl
              go_simp
              refine (HCALL.out w' h hN hh' hhg).mono ?_
              rintro e w3 ⟨q, C', rfl, ho, hq, hk⟩
              refine hK.out _ _ ⟨b0, b1, b2, b3, true, true, true, true, true, true, b10, b11, false, v94, v95, v96, v97, ((.slice (some ⟨g, 0, none⟩) n C)), (.int .i64 (K1 : Int)), (.int .i64 (K2 : Int)), ((.agg #[.int .i64 jf, .int .i64 ju])), (.slice (some ⟨h, 0, none⟩) 1 1), (.slice (some ⟨q, 0, none⟩) N0 C'), v104, v105, rfl, by simp only [Act.put, List.getElem_toArray, List.getElem_cons_succ, List.getElem_cons_zero, List.setIfInBounds_toArray, List.set_cons_zero, List.set_cons_succ], (W.trans (hk.mono (fun _ _ e => .inr e))), (fun h => Bool.noConfusion h), (fun _ => (hk.block b (Nat.lt_of_lt_of_le HBL.out hN.size) HBG.out).trans hM), (fun h => Bool.noConfusion h), (fun h => Bool.noConfusion h), (fun _ => ⟨rfl, rfl, rfl, rfl⟩), D8, C0, C1, C2, C3, C4, C5, C6, C7, (fun _ => ⟨h, rfl, fun h => Bool.noConfusion h⟩), (fun _ => ⟨q, C', rfl, fun _ => ho, hq.imp id (fun e => by have := hN.size; omega)⟩), C10, C11⟩
            · obtain rfl : b10 = false := hu
              obtain rfl : b0 = true := hn 0 (by decide)
              obtain rfl : b1 = true := hn 1 (by decide)
              obtain rfl : b2 = true := hn 2 (by decide)
              obtain rfl : b3 = true := hn 3 (by decide)
              obtain rfl : b4 = true := hn 4 (by decide)
              obtain rfl : b5 = true := hn 5 (by decide)
              obtain rfl : b6 = true := hn 6 (by decide)
              obtain rfl : b7 = true := hn 7 (by decide)
              obtain rfl : b8 = true := hn 8 (by decide)
              obtain rfl : b9 = true := hn 9 (by decide)
              clear hn
              refine wpOp_shut rfl (fun K' hK => ?_)
              simp only [Act.put, List.getElem_toArray, List.getElem_cons_succ, List.getElem_cons_zero, List.setIfInBounds_toArray, List.set_cons_zero, List.set_cons_succ]
              have hC0 := (C0 rfl).symm
              subst hC0
              have hC1 := (C1 rfl).symm
              subst hC1
              have hC2 := (C2 rfl).symm
              subst hC2
              have hC3 := (C3 rfl).symm
              subst hC3
              have hC4 := (C4 rfl).symm
              subst hC4
              have hC5 := (C5 rfl).symm
              subst hC5
              have hC6 := (C6 rfl).symm
              subst hC6
              have hC7 := (C7 rfl).symm
              subst hC7
              go_simp
              refine hK.out _ _ ⟨true, true, true, true, true, true, true, true, true, true, true, b11, b12, (.pointer (some ⟨b, 0, none⟩)), (.pointer (some ⟨b, 0, none⟩)), (.pointer (some ⟨b, 0, none⟩)), (.pointer (some ⟨b, 2, none⟩)), ((.slice (some ⟨g, 0, none⟩) n C)), (.int .i64 (K1 : Int)), (.int .i64 (K2 : Int)), ((.agg #[.int .i64 jf, .int .i64 ju])), v102, v103, (.pointer (some ⟨b, 0, none⟩)), v105, rfl, by simp only [Act.put, List.getElem_toArray, List.getElem_cons_succ, List.getElem_cons_zero, List.setIfInBounds_toArray, List.set_cons_zero, List.set_cons_succ], W, N, N2, M, D12, D9, D8, C0, C1, C2, C3, C4, C5, C6, C7, C8, C9, (fun _ => rfl), C11⟩
            · obtain rfl : b11 = false := hu
              obtain rfl : b0 = true := hn 0 (by decide)
              obtain rfl : b1 = true := hn 1 (by decide)
              obtain rfl : b2 = true := hn 2 (by decide)
              obtain rfl : b3 = true := hn 3 (by decide)
              obtain rfl : b4 = true := hn 4 (by decide)
              obtain rfl : b5 = true := hn 5 (by decide)
              obtain rfl : b6 = true := hn 6 (by decide)
              obtain rfl : b7 = true := hn 7 (by decide)
              obtain rfl : b8 = true := hn 8 (by decide)
              obtain rfl : b9 = true := hn 9 (by decide)
              obtain rfl : b10 = true := hn 10 (by decide)
              clear hn
              refine wpOp_shut rfl (fun K' hK => ?_)
              simp only [Act.put, List.getElem_toArray, List.getElem_cons_succ, List.getElem_cons_zero, List.setIfInBounds_toArray, List.set_cons_zero, List.set_cons_succ]
              have hC0 := (C0 rfl).symm
              subst hC0
              have hC1 := (C1 rfl).symm
              subst hC1
              have hC2 := (C2 rfl).symm
              subst hC2
              have hC3 := (C3 rfl).symm
              subst hC3
              have hC4 := (C4 rfl).symm
              subst hC4
              have hC5 := (C5 rfl).symm
              subst hC5
              have hC6 := (C6 rfl).symm
              subst hC6
              have hC7 := (C7 rfl).symm
              subst hC7
              have hC10 := (C10 rfl).symm
              subst hC10
              go_simp
              refine hK.out _ _ ⟨true, true, true, true, true, true, true, true, true, true, true, true, b12, (.pointer (some ⟨b, 0, none⟩)), (.pointer (some ⟨b, 0, none⟩)), (.pointer (some ⟨b, 0, none⟩)), (.pointer (some ⟨b, 2, none⟩)), ((.slice (some ⟨g, 0, none⟩) n C)), (.int .i64 (K1 : Int)), (.int .i64 (K2 : Int)), ((.agg #[.int .i64 jf, .int .i64 ju])), v102, v103, (.pointer (some ⟨b, 0, none⟩)), (.pointer (some ⟨b, 2, none⟩)), rfl, by simp only [Act.put, List.getElem_toArray, List.getElem_cons_succ, List.getElem_cons_zero, List.setIfInBounds_toArray, List.set_cons_zero, List.set_cons_succ], W, N, N2, M, (fun h => absurd (D12 h) (by simp)), D9, D8, C0, C1, C2, C3, C4, C5, C6, C7, C8, C9, C10, (fun _ => rfl)⟩
            · obtain rfl : b12 = false := hu
              obtain rfl : b0 = true := hn 0 (by decide)
              obtain rfl : b1 = true := hn 1 (by decide)
              obtain rfl : b2 = true := hn 2 (by decide)
              obtain rfl : b3 = true := hn 3 (by decide)
              obtain rfl : b4 = true := hn 4 (by decide)
              obtain rfl : b5 = true := hn 5 (by decide)
              obtain rfl : b6 = true := hn 6 (by decide)
              obtain rfl : b7 = true := hn 7 (by decide)
              obtain rfl : b8 = true := hn 8 (by decide)
              obtain rfl : b9 = true := hn 9 (by decide)
              obtain rfl : b11 = true := hn 11 (by decide)
              clear hn
              refine wpOp_shut rfl (fun K' hK => ?_)
              simp only [Act.put, List.getElem_toArray, List.getElem_cons_succ, List.getElem_cons_zero, List.setIfInBounds_toArray, List.set_cons_zero, List.set_cons_succ]
              obtain ⟨q, C', hC9, ho, hq⟩ := C9 rfl
              subst hC9
              have hC0 := (C0 rfl).symm
              subst hC0
              have hC1 := (C1 rfl).symm
              subst hC1
              have hC2 := (C2 rfl).symm
              subst hC2
              have hC3 := (C3 rfl).symm
              subst hC3
              have hC4 := (C4 rfl).symm
              subst hC4
              have hC5 := (C5 rfl).symm
              subst hC5
              have hC6 := (C6 rfl).symm
              subst hC6
              have hC7 := (C7 rfl).symm
              subst hC7
              have hC11 := (C11 rfl).symm
              subst hC11
              have hm : w'.heap[b]? = _ := (N2 rfl).trans HM2.out
              have ho := ho rfl
              have e2 : w'.cell? ⟨b, 2, none⟩ = some (.slice (some ⟨g, 0, none⟩) n C) := (cell_of_row _ _ _ _ _ _ hm).trans rfl
              have z2 : w'.frozen? ⟨b, 2, none⟩ = false := frozen_of_row _ _ _ _ _ hm
              go_simp
              refine hK.out _ _ ⟨true, true, true, true, true, true, true, true, true, true, b10, true, true, (.pointer (some ⟨b, 0, none⟩)), (.pointer (some ⟨b, 0, none⟩)), (.pointer (some ⟨b, 0, none⟩)), (.pointer (some ⟨b, 2, none⟩)), ((.slice (some ⟨g, 0, none⟩) n C)), (.int .i64 (K1 : Int)), (.int .i64 (K2 : Int)), ((.agg #[.int .i64 jf, .int .i64 ju])), v102, (.slice (some ⟨q, 0, none⟩) N0 C'), v104, (.pointer (some ⟨b, 2, none⟩)), rfl, by simp only [Act.put, List.getElem_toArray, List.getElem_cons_succ, List.getElem_cons_zero, List.setIfInBounds_toArray, List.set_cons_zero, List.set_cons_succ], (W.setCell (p := ⟨b, 2, none⟩) (fun _ => .inl rfl) _), (fun h => Bool.noConfusion h), (fun h => Bool.noConfusion h), (fun _ => ⟨q, C', (setCell_heapS _ _ _ _ _ _ _ hm).trans (by simp), owns_by ho (fun k hk => setCell_else w' b 2 k _ (owns_ne ho hm (by decide) k hk)), hq⟩), (fun _ => ⟨rfl, rfl, rfl, rfl, rfl, rfl, rfl, rfl, rfl, rfl, rfl⟩), D9, D8, C0, C1, C2, C3, C4, C5, C6, C7, (fun _ => by obtain ⟨h, h1, _⟩ := C8 rfl; exact ⟨h, h1, fun h => Bool.noConfusion h⟩), (fun _ => ⟨q, C', rfl, (fun h => Bool.noConfusion h), hq⟩), C10, C11⟩
          case fin =>
            rintro L a w' ⟨b0, b1, b2, b3, b4, b5, b6, b7, b8, b9, b10, b11, b12, v94, v95, v96, v97, v98, v99, v100, v101, v102, v103, v104, v105, rfl, rfl, W, N, N2, M, D12, D9, D8, C0, C1, C2, C3, C4, C5, C6, C7, C8, C9, C10, C11⟩ hr
            have hz : b0 = true ∧ b1 = true ∧ b2 = true ∧ b3 = true ∧ b4 = true ∧ b5 = true ∧ b6 = true ∧ b7 = true ∧ b8 = true ∧ b9 = true ∧ b10 = true ∧ b11 = true ∧ b12 = true := by
              have h := ready_done (by kernel_rfl) (by kernel_rfl) hr
              simpa only [List.all_cons, List.all_nil, id, Bool.and_true, Bool.and_eq_true] using h
            obtain ⟨rfl, rfl, rfl, rfl, rfl, rfl, rfl, rfl, rfl, rfl, rfl, rfl, rfl⟩ := hz
            clear hr
            simp only [Act.put, List.getElem_toArray, List.getElem_cons_succ, List.getElem_cons_zero, List.setIfInBounds_toArray, List.set_cons_zero, List.set_cons_succ]
            obtain ⟨q, C', hM, hO, hq⟩ := M rfl
            have HW' := hid W
            have HM := hid hM
            have HO := hid hO
            have HQ := hid hq
            clear C0 C1 C2 C3 C4 C5 C6 C7 C8 C9 C10 C11 D12 D9 D8 W N N2 M hM hO hq
            obtain ⟨w4, hw4⟩ : ∃ z, z = w' := ⟨_, rfl⟩
            rw [← hw4] at HW' HM HO ⊢
            clear hw4
            have e1 : w4.cell? ⟨b, 1, none⟩ = some (.int .i64 left) := (cell_of_row _ _ _ _ _ _ HM.out).trans rfl
            have z1 : w4.frozen? ⟨b, 1, none⟩ = false := frozen_of_row _ _ _ _ _ HM.out
            go_wp2_with fail
            go_ret
            have hm6 := (setCell_heapS w4 b 1 _ _ _ (.int .i64 (left + 1)) HM.out).trans (show _ = some (Obj.cells #[.int .i64 size, .int .i64 (left + 1), .slice (some ⟨q, 0, none⟩) N0 C'] 114 (0, 0)) by simp)
            have ho6 := owns_by (w' := w4.setCell ⟨b, 1, none⟩ (.int .i64 (left + 1))) HO.out (fun k hk => setCell_else w4 b 1 k (.int .i64 (left + 1)) (owns_ne HO.out HM.out (by decide) k hk))
            obtain ⟨sp', hG, hcc⟩ := MG.of_own hm6 H1.out.lob ho6
            exact ⟨rfl, ⟨q, C', sp', hG, hcc, HQ.out.imp id (fun e => by have := HB1.out.size; have := HB2.out.size; omega)⟩, ((Keeps.of_below (HB1.out.trans (HB2.out.mono HB1.out.size)) (fun k h1 h2 => by omega)).trans HW'.out).setCell (p := ⟨b, 1, none⟩) (fun _ => .inl rfl) _⟩

end Go.Proofs.Ytbagpckiegpalaa
