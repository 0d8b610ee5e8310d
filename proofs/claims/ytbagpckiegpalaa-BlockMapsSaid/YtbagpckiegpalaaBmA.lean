/-
  Layer 6: a map of places with any runs.
-/
import Derived.Test.YtbagpckiegpalaaMpC
namespace Go.Proofs.Ytbagpckiegpalaa
open Go.RowKit
set_option linter.unusedVariables false
set_option linter.unusedSimpArgs false

/-- The cells of runs that lie one behind the other. -/
def runCells : List (Int × Int) → List Value
  | [] => []
  | (f, u) :: l => .int .i64 f :: .int .i64 u :: runCells l

theorem runCells_length (l : List (Int × Int)) : (runCells l).length = 2 * l.length := by
  induction l with
  | nil => rfl
  | cons x l ih => obtain ⟨f, u⟩ := x; simp only [runCells, List.length_cons, ih]; omega

theorem runCells_at (l : List (Int × Int)) (k : Nat) (f u : Int) (h : l[k]? = some (f, u)) :
    (runCells l)[k * 2]? = some (.int .i64 f) ∧ (runCells l)[k * 2 + 1]? = some (.int .i64 u) := by
  induction l generalizing k with
  | nil => simp at h
  | cons x l ih =>
    obtain ⟨a, b⟩ := x
    cases k with
    | zero => simp at h; obtain ⟨rfl, rfl⟩ := h; exact ⟨rfl, rfl⟩
    | succ k =>
      have := ih k (by simpa using h)
      rw [show (k + 1) * 2 = k * 2 + 1 + 1 by omega]
      exact this

theorem runCells_append (l m : List (Int × Int)) : runCells (l ++ m) = runCells l ++ runCells m := by
  induction l with
  | nil => rfl
  | cons x l ih => obtain ⟨a, b⟩ := x; simp [runCells, ih]

/-- A map of n places with the runs F of free ones, in a row of its own with `sp` cells behind them. -/
structure MG (w : World) (lo b g : Nat) (size left : Int) (F : List (Int × Int)) (C : Nat) (sp : List Value) : Prop where
  map : w.heap[b]? = some (.cells #[.int .i64 size, .int .i64 left, .slice (some ⟨g, 0, none⟩) F.length C] 114 (0, 0))
  run : w.heap[g]? = some (.cells (runCells F ++ sp).toArray 116 (0, 0))
  lob : lo ≤ b
  log : lo ≤ g
  cap : 2 * C = 2 * F.length + sp.length

theorem MG.below {w w' : World} {lo b g : Nat} {size left : Int} {C : Nat} {F : List (Int × Int)} {sp : List Value} (h : MG w lo b g size left F C sp) (hb : Below w.heap.size w w') : MG w' lo b g size left F C sp :=
  ⟨(hb.block _ (Array.getElem?_eq_some_iff.1 h.map).1).trans h.map, (hb.block _ (Array.getElem?_eq_some_iff.1 h.run).1).trans h.run, h.lob, h.log, h.cap⟩

theorem MG.cells {w : World} {lo b g : Nat} {size left : Int} {C : Nat} {F : List (Int × Int)} {sp : List Value} (h : MG w lo b g size left F C sp) :
    (w.cell? ⟨b, 0, none⟩ = some (.int .i64 size) ∧ w.cell? ⟨b, 1, none⟩ = some (.int .i64 left) ∧ w.cell? ⟨b, 2, none⟩ = some (.slice (some ⟨g, 0, none⟩) F.length C)) ∧
    w.frozen? ⟨b, 0, none⟩ = false ∧ w.frozen? ⟨b, 1, none⟩ = false ∧ w.frozen? ⟨b, 2, none⟩ = false :=
  ⟨⟨(cell_of_row w _ _ _ _ _ h.map).trans rfl, (cell_of_row w _ _ _ _ _ h.map).trans rfl, (cell_of_row w _ _ _ _ _ h.map).trans rfl⟩,
    frozen_of_row _ _ _ _ _ h.map, frozen_of_row _ _ _ _ _ h.map, frozen_of_row _ _ _ _ _ h.map⟩

theorem MG.at {w : World} {lo b g : Nat} {size left : Int} {C : Nat} {F : List (Int × Int)} {sp : List Value} (h : MG w lo b g size left F C sp) (k : Nat) (f u : Int) (hk : F[k]? = some (f, u)) :
    w.cell? ⟨g, k * 2, none⟩ = some (.int .i64 f) ∧ w.cell? ⟨g, k * 2 + 1, none⟩ = some (.int .i64 u) := by
  obtain ⟨h0, h1⟩ := runCells_at F k f u hk
  have hl : k < F.length := (List.getElem?_eq_some_iff.1 hk).1
  have hc := runCells_length F
  refine ⟨(cell_of_row w _ _ _ _ _ h.run).trans ?_, (cell_of_row w _ _ _ _ _ h.run).trans ?_⟩
  · rw [← h0]; simp [List.getElem?_append_left (show k * 2 < (runCells F).length by omega)]
  · rw [← h1]; simp [List.getElem?_append_left (show k * 2 + 1 < (runCells F).length by omega)]

set_option maxHeartbeats 1000000 in
theorem leftG (w : World) (lo b g : Nat) (size left : Int) (C : Nat) (F : List (Int × Int)) (sp : List Value) (h : MG w lo b g size left F C sp) : Calls Try.prog 36 #[.pointer (some ⟨b, 0, none⟩)] w fun e w' => e = .returned (.int .i64 left) ∧ w = w' := by
  obtain ⟨⟨c0, c1, c2⟩, f0, f1, f2⟩ := h.cells
  go_enter Try.func36, Try.ntmps36
  go_wp2_with fail
  go_ret
  exact ⟨rfl, rfl⟩

set_option maxHeartbeats 1000000 in
theorem hitG (w : World) (b g p q lo k : Nat) (size left f u i : Int) (C : Nat) (F : List (Int × Int)) (sp : List Value) (h : MG w lo b g size left F C sp) (hk : F[k]? = some (f, u)) (hp : w.cell? ⟨p, 0, none⟩ = some (.pointer (some ⟨b, 0, none⟩))) (hq : w.cell? ⟨q, 0, none⟩ = some (.int .i64 i)) :
    Calls Try.prog 60 #[.int .i64 k, .pointer (some ⟨p, 0, none⟩), .pointer (some ⟨q, 0, none⟩)] w fun e w' => e = .returned (.bool (decide (i < u))) ∧ Below w.heap.size w w' := by
  obtain ⟨⟨c0, c1, c2⟩, f0, f1, f2⟩ := h.cells
  obtain ⟨d0, d1⟩ := h.at k f u hk
  have hl : k < F.length := (List.getElem?_eq_some_iff.1 hk).1
  obtain ⟨n, hn⟩ : ∃ n, n = F.length := ⟨_, rfl⟩
  rw [← hn] at c2 hl
  have hkl : (k : Int) < (n : Int) := by omega
  clear h hk hn
  go_enter Try.func60, Try.ntmps60
  go_wp2_with fail
  go_quiet (fail)
  go_wp2_with fail
  go_ret
  refine ⟨?_, below_behindB (Below.refl _ w) _⟩
  simp

set_option maxHeartbeats 1000000 in
theorem searchG (w : World) (p q n K : Nat) (hKn : K ≤ n) (hn : n ≤ 1000000)
    (HH : ∀ (k : Nat) W, k < n → Below w.heap.size w W → Calls Try.prog 60 #[.int .i64 k, .pointer (some ⟨p, 0, none⟩), .pointer (some ⟨q, 0, none⟩)] W fun e w' => e = .returned (.bool (decide (K ≤ k))) ∧ Below W.heap.size W w') :
    Calls Try.prog 59 #[.int .i64 n, .func (.func 60) #[] #[.pointer (some ⟨p, 0, none⟩), .pointer (some ⟨q, 0, none⟩)]] w fun e w' => e = .returned (.int .i64 K) ∧ Below w.heap.size w w' := by
  have HHH := hid HH
  clear HH
  go_enter Try.func59, Try.ntmps59
  go_wp2_with fail
  go_loopw [5, 6] (fun x y wr => ∃ i j : Nat, x = .int .i64 i ∧ y = .int .i64 j ∧ i ≤ K ∧ K ≤ j ∧ j ≤ n ∧ Below w.heap.size w wr) (fun x y _ => (intOf y).toNat - (intOf x).toNat)
  case atStart => exact ⟨0, n, rfl, rfl, by omega, hKn, Nat.le_refl _, Below.refl _ _⟩
  case round =>
    obtain ⟨i, j, rfl, rfl, h1, h2, h3, hb⟩ := hrel
    have HB := hid hb
    clear hb
    by_cases hij : i < j
    · have hlt : (i : Int) < (j : Int) := by omega
      obtain ⟨m, hm⟩ : ∃ m, m = (i + j) / 2 := ⟨_, rfl⟩
      have hmj : m < j := by omega
      have him : i ≤ m := by omega
      have HC := hid (HHH.out m wr (by omega) HB.out)
      have EM := hid (show ((i : Int) + (j : Int)) / 2 = (m : Int) by omega)
      have HJ := hid hmj
      have HI := hid him
      have HN := hid (show m + 1 ≤ 1000000 by omega)
      clear hm hmj him hij
      by_cases hKm : K ≤ m
      · have HD := hid (show decide (K ≤ m) = true from decide_eq_true hKm)
        go_wp2_with (first
          | (simp only [EM.out]; refine (HC.out).mono ?_; rintro e w2 ⟨rfl, hb2⟩; rw [HD.out])
          | fail)
        go_roundw
        case rel => exact ⟨i, m, rfl, rfl, h1, hKm, by have := HJ.out; omega, HB.out.trans (hb2.mono HB.out.size)⟩
        case measure => have := HJ.out; have := HI.out; simp [intOf]; omega
      · have HD := hid (show decide (K ≤ m) = false from decide_eq_false hKm)
        go_wp2_with (first
          | (simp only [EM.out]; refine (HC.out).mono ?_; rintro e w2 ⟨rfl, hb2⟩; rw [HD.out])
          | fail)
        have hn1 := HN.out
        go_wp2_with fail
        go_roundw
        case rel => exact ⟨m + 1, j, by go_num, rfl, by omega, h2, h3, HB.out.trans (hb2.mono HB.out.size)⟩
        case measure => have := HJ.out; have := HI.out; simp [intOf]; omega
    · have hlt : ¬ (i : Int) < (j : Int) := by omega
      have hK : i = K := by omega
      subst hK
      go_wp2_with fail
      go_ret
      exact ⟨rfl, HB.out⟩

set_option maxHeartbeats 2000000 in
theorem findG_in (w : World) (b g lo K : Nat) (size left i : Int) (C : Nat) (F : List (Int × Int)) (sp : List Value) (h : MG w lo b g size left F C sp) (hn : F.length ≤ 1000000) (hm : ∀ (k : Nat) f u, F[k]? = some (f, u) → decide (i < u) = decide (K ≤ k)) (f u : Int) (hf : F[K]? = some (f, u)) :
    Calls Try.prog 52 #[.pointer (some ⟨b, 0, none⟩), .int .i64 i] w fun e w' => e = .returned (.tuple #[.int .i64 K, .bool (decide (f ≤ i))]) ∧ Below w.heap.size w w' := by
  obtain ⟨w1, hw1⟩ : ∃ z, z = (w.alloc (.cells #[.pointer (some ⟨b, 0, none⟩)] 71)).alloc (.cells #[.int .i64 i] 3) := ⟨_, rfl⟩
  have hs : (w.alloc (.cells #[.pointer (some ⟨b, 0, none⟩)] 71)).heap.size = w.heap.size + 1 := by
    show (w.heap.push _).size = _
    simp
  have hb0 : Below w.heap.size w (w.alloc (.cells #[.pointer (some ⟨b, 0, none⟩)] 71)) := (Below.refl _ w).alloc (Nat.le_refl _) _
  have hb1 : Below w.heap.size w w1 := by rw [hw1]; exact hb0.alloc hb0.size _
  have g0 : w1.heap[w.heap.size]? = some (.cells #[.pointer (some ⟨b, 0, none⟩)] 71 (0, 0)) := by
    rw [hw1, heap_alloc_old _ _ (by omega)]; exact heap_alloc_new _ _
  have g1 : w1.heap[w.heap.size + 1]? = some (.cells #[.int .i64 i] 3 (0, 0)) := by
    rw [hw1, ← hs]; exact heap_alloc_new _ _
  have H1 := hid (h.below hb1)
  have hKn : K ≤ F.length := Nat.le_of_lt (List.getElem?_eq_some_iff.1 hf).1
  have HS := hid (searchG w1 w.heap.size (w.heap.size + 1) F.length K hKn hn fun k W hk hW => by
    obtain ⟨⟨f, u⟩, hfu⟩ : ∃ x, F[k]? = some x := ⟨_, List.getElem?_eq_getElem hk⟩
    have hh := hitG W b g w.heap.size (w.heap.size + 1) lo k size left f u i C F sp (H1.out.below hW) hfu ((cell_of_row _ _ _ _ _ _ ((hW.block _ (Array.getElem?_eq_some_iff.1 g0).1).trans g0)).trans rfl) ((cell_of_row _ _ _ _ _ _ ((hW.block _ (Array.getElem?_eq_some_iff.1 g1).1).trans g1)).trans rfl)
    rw [hm k f u hfu] at hh
    exact hh)
  have HB1 := hid hb1
  have HG0 := hid g0
  have HG1 := hid g1
  have HW1 := hid hw1
  have HKN := hid hKn
  clear h hn hm hs hb0 hb1 g0 g1 hw1 hKn
  obtain ⟨⟨c0, c1, c2⟩, -, -, -⟩ := H1.out.cells
  have k0 : w1.cell? ⟨w.heap.size, 0, none⟩ = some (.pointer (some ⟨b, 0, none⟩)) := (cell_of_row _ _ _ _ _ _ HG0.out).trans rfl
  go_enter Try.func52, Try.ntmps52
  go_upto_region 1 with fail
  rw [← HW1.out]
  go_upto_region 2 with (first
    | (go_at_call 59; refine (HS.out).mono ?_; rintro e w2 ⟨rfl, hb2⟩)
    | fail)
  have HB2 := hid (HB1.out.trans (hb2.mono HB1.out.size))
  have H2 := hid (H1.out.below hb2)
  clear c0 c1 c2 k0
  obtain ⟨⟨c0, c1, c2⟩, -, -, -⟩ := H2.out.cells
  have k0 : w2.cell? ⟨w.heap.size, 0, none⟩ = some (.pointer (some ⟨b, 0, none⟩)) := (cell_of_row _ _ _ _ _ _ ((hb2.block _ (Array.getElem?_eq_some_iff.1 HG0.out).1).trans HG0.out)).trans rfl
  have k1 : w2.cell? ⟨w.heap.size + 1, 0, none⟩ = some (.int .i64 i) := (cell_of_row _ _ _ _ _ _ ((hb2.block _ (Array.getElem?_eq_some_iff.1 HG1.out).1).trans HG1.out)).trans rfl
  clear hb2
  obtain ⟨d0, d1⟩ := H2.out.at K f u hf
  have hl : K < F.length := (List.getElem?_eq_some_iff.1 hf).1
  obtain ⟨n, hn⟩ : ∃ n, n = F.length := ⟨_, rfl⟩
  rw [← hn] at c2 hl
  have hkl : (K : Int) < (n : Int) := by omega
  clear hf hn
  go_quiet (fail)
  go_wp2_with fail
  go_ret2
  exact ⟨rfl, below_behindB HB2.out _⟩

set_option maxHeartbeats 2000000 in
theorem findG_out (w : World) (b g lo K : Nat) (size left i : Int) (C : Nat) (F : List (Int × Int)) (sp : List Value) (h : MG w lo b g size left F C sp) (hn : F.length ≤ 1000000) (hm : ∀ (k : Nat) f u, F[k]? = some (f, u) → decide (i < u) = decide (K ≤ k)) (hK : K = F.length) :
    Calls Try.prog 52 #[.pointer (some ⟨b, 0, none⟩), .int .i64 i] w fun e w' => e = .returned (.tuple #[.int .i64 K, .bool false]) ∧ Below w.heap.size w w' := by
  obtain ⟨w1, hw1⟩ : ∃ z, z = (w.alloc (.cells #[.pointer (some ⟨b, 0, none⟩)] 71)).alloc (.cells #[.int .i64 i] 3) := ⟨_, rfl⟩
  have hs : (w.alloc (.cells #[.pointer (some ⟨b, 0, none⟩)] 71)).heap.size = w.heap.size + 1 := by
    show (w.heap.push _).size = _
    simp
  have hb0 : Below w.heap.size w (w.alloc (.cells #[.pointer (some ⟨b, 0, none⟩)] 71)) := (Below.refl _ w).alloc (Nat.le_refl _) _
  have hb1 : Below w.heap.size w w1 := by rw [hw1]; exact hb0.alloc hb0.size _
  have g0 : w1.heap[w.heap.size]? = some (.cells #[.pointer (some ⟨b, 0, none⟩)] 71 (0, 0)) := by
    rw [hw1, heap_alloc_old _ _ (by omega)]; exact heap_alloc_new _ _
  have g1 : w1.heap[w.heap.size + 1]? = some (.cells #[.int .i64 i] 3 (0, 0)) := by
    rw [hw1, ← hs]; exact heap_alloc_new _ _
  have H1 := hid (h.below hb1)
  have hKn : K ≤ F.length := by omega
  have HS := hid (searchG w1 w.heap.size (w.heap.size + 1) F.length K hKn hn fun k W hk hW => by
    obtain ⟨⟨f, u⟩, hfu⟩ : ∃ x, F[k]? = some x := ⟨_, List.getElem?_eq_getElem hk⟩
    have hh := hitG W b g w.heap.size (w.heap.size + 1) lo k size left f u i C F sp (H1.out.below hW) hfu ((cell_of_row _ _ _ _ _ _ ((hW.block _ (Array.getElem?_eq_some_iff.1 g0).1).trans g0)).trans rfl) ((cell_of_row _ _ _ _ _ _ ((hW.block _ (Array.getElem?_eq_some_iff.1 g1).1).trans g1)).trans rfl)
    rw [hm k f u hfu] at hh
    exact hh)
  have HB1 := hid hb1
  have HG0 := hid g0
  have HG1 := hid g1
  have HW1 := hid hw1
  have HKN := hid hKn
  clear h hn hm hs hb0 hb1 g0 g1 hw1 hKn
  obtain ⟨⟨c0, c1, c2⟩, -, -, -⟩ := H1.out.cells
  have k0 : w1.cell? ⟨w.heap.size, 0, none⟩ = some (.pointer (some ⟨b, 0, none⟩)) := (cell_of_row _ _ _ _ _ _ HG0.out).trans rfl
  go_enter Try.func52, Try.ntmps52
  go_upto_region 1 with fail
  rw [← HW1.out]
  go_upto_region 2 with (first
    | (go_at_call 59; refine (HS.out).mono ?_; rintro e w2 ⟨rfl, hb2⟩)
    | fail)
  have HB2 := hid (HB1.out.trans (hb2.mono HB1.out.size))
  have H2 := hid (H1.out.below hb2)
  clear c0 c1 c2 k0
  obtain ⟨⟨c0, c1, c2⟩, -, -, -⟩ := H2.out.cells
  have k0 : w2.cell? ⟨w.heap.size, 0, none⟩ = some (.pointer (some ⟨b, 0, none⟩)) := (cell_of_row _ _ _ _ _ _ ((hb2.block _ (Array.getElem?_eq_some_iff.1 HG0.out).1).trans HG0.out)).trans rfl
  have k1 : w2.cell? ⟨w.heap.size + 1, 0, none⟩ = some (.int .i64 i) := (cell_of_row _ _ _ _ _ _ ((hb2.block _ (Array.getElem?_eq_some_iff.1 HG1.out).1).trans HG1.out)).trans rfl
  clear hb2
  have hkl : ¬ (K : Int) < (F.length : Int) := by omega
  go_quiet (fail)
  go_wp2_with fail
  go_ret2
  exact ⟨rfl, below_behindB HB2.out _⟩

end Go.Proofs.Ytbagpckiegpalaa
