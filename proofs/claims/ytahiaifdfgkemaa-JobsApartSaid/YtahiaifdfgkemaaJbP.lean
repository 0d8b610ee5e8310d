/-
  Where a job stands: slices.IndexFunc and its closure.
-/
import Derived.Test.YtahiaifdfgkemaaJbM
namespace Go.Proofs.Ytahiaifdfgkemaa
open Go.RowKit
set_option linter.unusedVariables false
set_option linter.unusedSimpArgs false

set_option maxRecDepth 100000 in
set_option maxHeartbeats 1000000 in
theorem isjob_any (w : World) (x : Jb) (z g : Nat) (hg : w.cell? ⟨g, 0, none⟩ = some (.int .u32 (z : Int))) :
    Calls Try.prog 41 #[jv x, .pointer (some ⟨g, 0, none⟩)] w fun e w' => e = .returned (.bool (decide (x.1 = z))) ∧ Below w.heap.size w w' := by
  obtain ⟨x0, x1, x2, x3, x4, x5⟩ := x
  unfold jv
  dsimp only
  have hlt : g < w.heap.size := World.block_lt_of_cell? _ _ hg
  have hd : decide ((x0 : Int) = (z : Int)) = decide (x0 = z) := by
    by_cases e : x0 = z
    · rw [decide_eq_true e, decide_eq_true (by omega)]
    · rw [decide_eq_false e, decide_eq_false (by omega)]
  have hbe : ((x0 : Int) == (z : Int)) = decide (x0 = z) := by rw [← hd]; rfl
  obtain ⟨w1, hw1⟩ : ∃ w1, w1 = w.alloc (.cells #[.int .u32 (x0 : Int), .int .u8 (x1 : Int), .int .i64 x2, .int .i64 x3, .int .u8 (x4 : Int), .int .i64 x5] 44) := ⟨_, rfl⟩
  have hb1 : Below w.heap.size w w1 := by rw [hw1]; exact (Below.refl _ w).alloc (Nat.le_refl _) _
  have HB := hid hb1
  have c1 : w1.cell? ⟨g, 0, none⟩ = some (.int .u32 (z : Int)) := (hb1.cell (p := ⟨g, 0, none⟩) hlt).trans hg
  rw [hw1] at c1
  clear hb1 hd
  go_enter Try.func41, Try.ntmps41
  go_wp2_with fail
  rw [← hw1]
  go_ret
  exact ⟨rfl, HB.out⟩

set_option maxRecDepth 100000 in
set_option maxHeartbeats 2000000 in
theorem index_any (w : World) (v : Value) (l : List Jb) (z g : Nat) (h : RdJ w v l) (hg : w.cell? ⟨g, 0, none⟩ = some (.int .u32 (z : Int))) (hl : l.length ≤ 100000) :
    Calls Try.prog 40 #[v, .func (.func 41) #[] #[.pointer (some ⟨g, 0, none⟩)]] w fun e w' => e = .returned (.int .i64 (posI l z)) ∧ Below w.heap.size w w' := by
  have H := hid h
  have HG := hid hg
  have hlt : g < w.heap.size := World.block_lt_of_cell? _ _ hg
  obtain ⟨a, c, rfl, hc1, hc2, -⟩ := h
  have HLL := hid hl
  clear hg hl
  obtain ⟨n, hn⟩ : ∃ n, n = l.length := ⟨_, rfl⟩
  rw [← hn] at hc1 H ⊢
  have HN := hid hn
  clear hn
  go_enter Try.func40, Try.ntmps40
  go_wp2_with fail
  go_loopw [8] (fun i wr => ∃ k : Nat, i = .int .i64 k ∧ k ≤ n ∧ (∀ j y, j < k → l[j]? = some y → y.1 ≠ z) ∧ Below w.heap.size w wr) (fun i _ => n - (intOf i).toNat)
  case atStart => exact ⟨0, rfl, Nat.zero_le _, fun j y hj => absurd hj (Nat.not_lt_zero _), Below.refl _ _⟩
  case round =>
    obtain ⟨k, rfl, hk, hall, hb⟩ := hrel
    have HA := hid hall
    have HB := hid hb
    have hsz := hb.size
    clear hall hb
    by_cases hkn : k < n
    · obtain ⟨x, hx⟩ : ∃ x, l[k]? = some x := ⟨_, List.getElem?_eq_getElem (by have := HN.out; omega)⟩
      obtain ⟨b, off, c', ev, h1, h2, hbl, f0, f1, f2, f3, f4, f5⟩ := RdJ.item (l := l) (by have := H.out.below HB.out; rw [HN.out] at this; exact this) hx
      rw [← HN.out] at ev
      simp only [Value.slice.injEq] at ev
      obtain ⟨ev1, -, ev3⟩ := ev
      subst ev1 ev3
      have HX := hid hx
      have hki : (k : Int) < (n : Int) := by omega
      have HI := hid (isjob_any wr x z g ((HB.out.cell (p := ⟨g, 0, none⟩) hlt).trans HG.out))
      obtain ⟨x0, x1, x2, x3, x4, x5⟩ := x
      unfold jv at HI
      dsimp only at HI f0 f1 f2 f3 f4 f5
      clear hx h1 h2
      by_cases he : x0 = z
      · rw [show decide (x0 = z) = true from decide_eq_true he] at HI
        have HP := hid (show posI l z = (k : Int) by unfold posI; rw [pos_of HX.out he HA.out])
        clear he
        go_wp2_with fail
        refine HI.out.mono ?_
        rintro e w1 ⟨rfl, hb1⟩
        have HB1 := hid (HB.out.trans (hb1.mono hsz))
        clear hb1
        go_wp2_with fail
        go_ret
        exact ⟨congrArg (fun x => Ending.returned (Value.int .i64 x)) HP.out.symm, HB1.out⟩
      · rw [show decide (x0 = z) = false from decide_eq_false he] at HI
        have HA1 := hid (show ∀ j y, j < k + 1 → l[j]? = some y → y.1 ≠ z from fun j y hj hy => by
          by_cases e : j = k
          · subst e
            rw [HX.out] at hy
            simp only [Option.some.injEq] at hy
            subst hy
            exact he
          · exact HA.out j y (by omega) hy)
        clear he
        go_wp2_with fail
        refine HI.out.mono ?_
        rintro e w1 ⟨rfl, hb1⟩
        have HB1 := hid (HB.out.trans (hb1.mono hsz))
        clear hb1
        go_wp2_with fail
        go_roundw
        case rel => exact ⟨k + 1, by go_num, by omega, HA1.out, HB1.out⟩
        case measure => simp [intOf]; omega
    · have hki : ¬ (k : Int) < (n : Int) := by omega
      have HP := hid (show posI l z = -1 by
        unfold posI
        rw [pos_none.2 (fun x hx e => by
          obtain ⟨j, hj⟩ := List.mem_iff_getElem?.1 hx
          have := (List.getElem?_eq_some_iff.1 hj).1
          exact HA.out j x (by have := HN.out; omega) hj e)])
      go_wp2_with fail
      go_ret
      exact ⟨congrArg (fun x => Ending.returned (Value.int .i64 x)) HP.out.symm, HB.out⟩

set_option maxRecDepth 100000 in
set_option maxHeartbeats 1000000 in
theorem place_any (w : World) (v : Value) (l : List Jb) (z : Nat) (h : RdJ w v l) (hl : l.length ≤ 100000) :
    Calls Try.prog 33 #[v, .int .u32 (z : Int)] w fun e w' => e = .returned (.int .i64 (posI l z)) ∧ Below w.heap.size w w' := by
  have H := hid h
  have HL := hid hl
  clear h hl
  obtain ⟨w1, hw1⟩ : ∃ w1, w1 = w.alloc (.cells #[.int .u32 (z : Int)] 30) := ⟨_, rfl⟩
  have hb1 : Below w.heap.size w w1 := by rw [hw1]; exact (Below.refl _ w).alloc (Nat.le_refl _) _
  have hg : w1.heap[w.heap.size]? = some (.cells #[.int .u32 (z : Int)] 30 (0, 0)) := by rw [hw1]; exact heap_alloc_new w _
  have HI := hid (index_any w1 v l z w.heap.size (H.out.below hb1) ((cell_of_row _ _ _ _ _ _ hg).trans rfl) HL.out)
  have HB := hid hb1
  clear hb1 hg
  go_enter Try.func33, Try.ntmps33
  go_wp2_with fail
  rw [← hw1]
  clear hw1
  refine HI.out.mono ?_
  rintro e w2 ⟨rfl, hb2⟩
  have HB2 := hid (HB.out.trans (hb2.mono HB.out.size))
  clear hb2
  go_wp2_with fail
  go_ret
  exact ⟨rfl, HB2.out⟩

end Go.Proofs.Ytahiaifdfgkemaa
