/-
  Layer 6: a map of places: each call, whole; a map without places among them.
-/
import Derived.Test.YtbagpckiegpalaaBmK
import Derived.Test.YtbagpckiegpalaaKeepT
namespace Go.Proofs.Ytbagpckiegpalaa
open Go.RowKit
set_option linter.unusedVariables false
set_option linter.unusedSimpArgs false

/-- A map without places. -/
structure ME (w : World) (lo b : Nat) : Prop where
  map : w.heap[b]? = some (.cells #[.int .i64 0, .int .i64 0, .slice none 0 0] 114 (0, 0))
  lob : lo ≤ b

theorem ME.cells {w : World} {lo b : Nat} (h : ME w lo b) :
    (w.cell? ⟨b, 0, none⟩ = some (.int .i64 0) ∧ w.cell? ⟨b, 1, none⟩ = some (.int .i64 0) ∧ w.cell? ⟨b, 2, none⟩ = some (.slice none 0 0)) ∧ w.frozen? ⟨b, 1, none⟩ = false ∧ w.frozen? ⟨b, 2, none⟩ = false :=
  ⟨⟨(cell_of_row w b 0 _ _ _ h.map).trans rfl, (cell_of_row w b 1 _ _ _ h.map).trans rfl, (cell_of_row w b 2 _ _ _ h.map).trans rfl⟩, frozen_of_row _ b 1 _ _ h.map, frozen_of_row _ b 2 _ _ h.map⟩

theorem ME.below {w w' : World} {lo b : Nat} (h : ME w lo b) (hb : Below w.heap.size w w') : ME w' lo b :=
  ⟨(hb.block _ (Array.getElem?_eq_some_iff.1 h.map).1).trans h.map, h.lob⟩

theorem left0 (w : World) (lo b : Nat) (h : ME w lo b) : Calls Try.prog 36 #[.pointer (some ⟨b, 0, none⟩)] w fun e w' => e = .returned (.int .i64 0) ∧ w = w' := by
  obtain ⟨⟨c0, c1, c2⟩, f1, f2⟩ := h.cells
  go_enter Try.func36, Try.ntmps36
  go_wp2_with fail
  go_ret
  exact ⟨rfl, rfl⟩

theorem leftN (w : World) : Calls Try.prog 36 #[.pointer none] w fun e w' => e = .returned (.int .i64 0) ∧ w = w' := by
  go_enter Try.func36, Try.ntmps36
  go_wp2_with fail
  go_ret
  exact ⟨rfl, rfl⟩

set_option maxHeartbeats 2000000 in
theorem find0 (w : World) (lo b : Nat) (i : Int) (h : ME w lo b) :
    Calls Try.prog 52 #[.pointer (some ⟨b, 0, none⟩), .int .i64 i] w fun e w' => e = .returned (.tuple #[.int .i64 0, .bool false]) ∧ Below w.heap.size w w' := by
  obtain ⟨w1, hw1⟩ : ∃ z, z = (w.alloc (.cells #[.pointer (some ⟨b, 0, none⟩)] 71)).alloc (.cells #[.int .i64 i] 3) := ⟨_, rfl⟩
  have hs : (w.alloc (.cells #[.pointer (some ⟨b, 0, none⟩)] 71)).heap.size = w.heap.size + 1 := by
    show (w.heap.push _).size = _
    simp
  have hb0 : Below w.heap.size w (w.alloc (.cells #[.pointer (some ⟨b, 0, none⟩)] 71)) := (Below.refl _ w).alloc (Nat.le_refl _) _
  have hb1 : Below w.heap.size w w1 := by rw [hw1]; exact hb0.alloc hb0.size _
  have g0 : w1.heap[w.heap.size]? = some (.cells #[.pointer (some ⟨b, 0, none⟩)] 71 (0, 0)) := by
    rw [hw1, heap_alloc_old _ _ (by omega)]; exact heap_alloc_new _ _
  have g1 : w1.heap[w.heap.size + 1]? = some (.cells #[.int .i64 i] 3 (0, 0)) := by
    rw [hw1, ← hs]; exact heap_alloc_new _ _
  have H1 := hid (h.below hb1)
  have HS := hid (searchG w1 w.heap.size (w.heap.size + 1) 0 0 (Nat.le_refl _) (by omega) fun k W hk hW => absurd hk (by omega))
  have HB1 := hid hb1
  have HG0 := hid g0
  have HG1 := hid g1
  have HW1 := hid hw1
  clear h hs hb0 hb1 g0 g1 hw1
  obtain ⟨⟨c0, c1, c2⟩, -, -⟩ := H1.out.cells
  have k0 : w1.cell? ⟨w.heap.size, 0, none⟩ = some (.pointer (some ⟨b, 0, none⟩)) := (cell_of_row _ _ _ _ _ _ HG0.out).trans rfl
  go_enter Try.func52, Try.ntmps52
  go_upto_region 1 with fail
  rw [← HW1.out]
  go_upto_region 2 with (first
    | (go_at_call 59; refine (HS.out).mono ?_; rintro e w2 ⟨rfl, hb2⟩)
    | fail)
  have HB2 := hid (HB1.out.trans (hb2.mono HB1.out.size))
  have H2 := hid (H1.out.below hb2)
  clear c0 c1 c2 k0
  obtain ⟨⟨c0, c1, c2⟩, -, -⟩ := H2.out.cells
  have k0 : w2.cell? ⟨w.heap.size, 0, none⟩ = some (.pointer (some ⟨b, 0, none⟩)) := (cell_of_row _ _ _ _ _ _ ((hb2.block _ (Array.getElem?_eq_some_iff.1 HG0.out).1).trans HG0.out)).trans rfl
  have k1 : w2.cell? ⟨w.heap.size + 1, 0, none⟩ = some (.int .i64 i) := (cell_of_row _ _ _ _ _ _ ((hb2.block _ (Array.getElem?_eq_some_iff.1 HG1.out).1).trans HG1.out)).trans rfl
  clear hb2
  go_quiet (fail)
  go_wp2_with fail
  go_ret2
  exact ⟨rfl, below_behindB HB2.out _⟩

theorem mark0 (w : World) (lo b : Nat) (i : Int) (h : ME w lo b) :
    Calls Try.prog 33 #[.pointer (some ⟨b, 0, none⟩), .int .i64 i] w fun e w' => e = .returned (.bool false) ∧ Below w.heap.size w w' := by
  have HF := hid (find0 w lo b i h)
  clear h
  go_enter Try.func33, Try.ntmps33
  go_wp2_with (first
    | (go_at_call 52; refine (HF.out).mono ?_; rintro e w2 ⟨rfl, hb2⟩)
    | fail)
  go_ret
  exact ⟨rfl, hb2⟩

theorem free0 (w : World) (lo b : Nat) (i : Int) (h : ME w lo b) :
    Calls Try.prog 34 #[.pointer (some ⟨b, 0, none⟩), .int .i64 i] w fun e w' => e = .returned (.bool false) ∧ w = w' := by
  obtain ⟨⟨c0, c1, c2⟩, f1, f2⟩ := h.cells
  go_enter Try.func34, Try.ntmps34
  by_cases h0 : i < 0
  · go_wp2_with fail
    go_ret
    exact ⟨rfl, rfl⟩
  · have h1 : (0 : Int) ≤ i := by omega
    go_wp2_with fail
    go_ret
    exact ⟨rfl, rfl⟩

theorem take0_no (w : World) (lo b : Nat) (i : Int) (h : ME w lo b) (hi : i < 0 ∨ 0 < i) :
    Calls Try.prog 35 #[.pointer (some ⟨b, 0, none⟩), .int .i64 i] w fun e w' => e = .returned (.tuple #[.slice none 0 0, .bool false]) ∧ w = w' := by
  obtain ⟨⟨c0, c1, c2⟩, f1, f2⟩ := h.cells
  go_enter Try.func35, Try.ntmps35
  rcases hi with h0 | h0
  · go_wp2_with fail
    go_ret2
    exact ⟨rfl, rfl⟩
  · have h1 : ¬ i < 0 := by omega
    go_wp2_with fail
    go_ret2
    exact ⟨rfl, rfl⟩

theorem delete0 (w : World) :
    Calls Try.prog 54 #[.slice none 0 0, .int .i64 0, .int .i64 0] w fun e w' => e = .returned (.slice none 0 0) ∧ w = w' := by
  go_enter Try.func54, Try.ntmps54
  go_wp2_with fail
  go_ret
  exact ⟨rfl, rfl⟩

set_option maxHeartbeats 2000000 in
theorem take0 (w : World) (lo b : Nat) (h : ME w lo b) (hlw : lo ≤ w.heap.size) :
    Calls Try.prog 35 #[.pointer (some ⟨b, 0, none⟩), .int .i64 0] w fun e w' => ∃ ua uc, e = .returned (.tuple #[.slice ua 0 uc, .bool true]) ∧ ME w' lo b ∧ w'.ownsRow w.heap.size 3 1 (.slice ua 0 uc) 0 [] ∧ Keeps (fun k => k = b) w w' := by
  obtain ⟨⟨c0, c1, c2⟩, f1, f2⟩ := h.cells
  have H := hid h
  clear h
  go_enter Try.func35, Try.ntmps35
  go_wp2_with (first
    | (refine mkI rfl (.const (.int .i64 0)) (.tmp 24) rfl w.heap.size .i64 .i64 0 0 rfl rfl rfl (by omega) (Nat.le_refl _) ?_; intro w1 ho hb1)
    | fail)
  have H1 := hid (H.out.below hb1)
  have HO := hid ho
  have HB := hid hb1
  clear c0 c1 c2 f1 f2 ho hb1
  obtain ⟨⟨c0, c1, c2⟩, f1, f2⟩ := H1.out.cells
  go_loopw [6, 7] (fun x y wr => x = .slice (some ⟨w.heap.size, 0, none⟩) 0 0 ∧ y = .int .i64 0 ∧ wr = w1 ∧ True) (fun _ _ _ => 0)
  case atStart => exact ⟨rfl, rfl, rfl, trivial⟩
  case round =>
    obtain ⟨rfl, rfl, rfl, -⟩ := hrel
    have HD := hid (delete0 wr)
    go_upto_region 13 with (first
      | (go_at_call 54; refine (HD.out).mono ?_; rintro e w4 ⟨rfl, rfl⟩)
      | fail)
    clear c0 c1 c2 f1 f2
    obtain ⟨w5, hw5⟩ : ∃ z, z = wr.setCell ⟨b, 2, none⟩ (.slice none 0 0) := ⟨_, rfl⟩
    rw [← hw5]
    have hm5 : w5.heap[b]? = some (.cells #[.int .i64 0, .int .i64 0, .slice none 0 0] 114 (0, 0)) := by rw [hw5]; exact (setCell_heapS _ _ _ _ _ _ _ H1.out.map).trans (by simp)
    have c1 := (cell_of_row _ b 1 _ _ _ hm5).trans (show _ = some (Value.int .i64 0) from rfl)
    have z1 := frozen_of_row _ b 1 _ _ hm5
    have HO5 := hid (owns_by (w' := w5) HO.out (fun q hq => by rw [hw5]; exact setCell_else wr b 2 q _ (owns_ne HO.out H1.out.map (by decide) q hq)))
    have HK5 := hid (show Keeps (fun q => q = b) w w5 by
      rw [hw5]
      refine Keeps.setCell (S := fun q => q = b) (p := ⟨b, 2, none⟩) ?_ (fun _ => rfl) _
      exact Keeps.of_below HB.out (fun k h1 h2 => by omega))
    have HM5 := hid hm5
    clear hw5 hm5
    go_wp2_with fail
    go_ret2
    have hm6 := (setCell_heapS w5 b 1 _ _ _ (.int .i64 0) HM5.out).trans (show _ = some (Obj.cells #[.int .i64 0, .int .i64 0, .slice none 0 0] 114 (0, 0)) by simp)
    exact ⟨_, _, rfl, ⟨hm6, H.out.lob⟩, owns_by (w' := w5.setCell ⟨b, 1, none⟩ (.int .i64 0)) HO5.out (fun q hq => setCell_else w5 b 1 q (.int .i64 0) (owns_ne HO5.out HM5.out (by decide) q hq)), HK5.out.setCell (p := ⟨b, 1, none⟩) (fun _ => rfl) _⟩

theorem newmap0 (w : World) (n : Int) (hn : n ≤ 0) : Calls Try.prog 32 #[.int .i64 n] w fun e w' => e = .returned (.pointer (some ⟨w.heap.size, 0, none⟩)) ∧ ME w' w.heap.size w.heap.size ∧ Below w.heap.size w w' := by
  go_enter Try.func32, Try.ntmps32
  go_wp2_with fail
  go_ret
  exact ⟨rfl, ⟨heap_alloc_new _ _, Nat.le_refl _⟩, (Below.refl _ w).alloc (Nat.le_refl _) _⟩

set_option maxHeartbeats 1000000 in
theorem newmapG (w : World) (n : Int) (hn : 0 < n) : Calls Try.prog 32 #[.int .i64 n] w fun e w' => e = .returned (.pointer (some ⟨w.heap.size + 1, 0, none⟩)) ∧ MG w' w.heap.size (w.heap.size + 1) w.heap.size n n [(0, n)] 1 [] ∧ Below w.heap.size w w' := by
  have hn0 : ¬ n ≤ 0 := by omega
  go_enter Try.func32, Try.ntmps32
  go_wp2_with fail
  go_ret
  have hs : (w.alloc (.cells #[.int .i64 0, .int .i64 n] 116)).heap.size = w.heap.size + 1 := by
    show (w.heap.push _).size = _
    simp
  have hb1 : Below w.heap.size w (w.alloc (.cells #[.int .i64 0, .int .i64 n] 116)) := (Below.refl _ w).alloc (Nat.le_refl _) _
  refine ⟨rfl, ⟨?_, ?_, Nat.le_succ _, Nat.le_refl _, rfl⟩, hb1.alloc hb1.size _⟩
  · rw [← hs]; exact heap_alloc_new _ _
  · rw [heap_alloc_old _ _ (by omega)]; exact heap_alloc_new _ _

end Go.Proofs.Ytbagpckiegpalaa
