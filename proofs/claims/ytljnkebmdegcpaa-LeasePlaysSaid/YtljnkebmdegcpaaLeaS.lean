/-
  The document's Hear.
-/
import Derived.Test.YtljnkebmdegcpaaLeaR
import Derived.Deep.RegionWith
import Derived.BigRegion
import Derived.Deep.Cut
import Derived.Deep.CutRange
namespace Go.Proofs.Ytljnkebmdegcpaa
open Go.RowKit
set_option linter.unusedVariables false
set_option linter.unusedSimpArgs false

abbrev RN : TypeId := 49

set_option maxHeartbeats 1000000 in
theorem refhear_out (w : World) (a : Option Addr) (n c : Nat) (i : Int) (now life : Nat) (hi : i < 0 ∨ (n : Int) ≤ i) :
    Calls Try.prog 10 #[.slice a n c, .int .i64 i, .int .u32 (now : Int), .int .u32 (life : Int)] w fun e w' => e = .returned (.tuple #[.slice a n c, .bool false, .bool false]) ∧ w = w' := by
  by_cases h0 : i < 0
  · have e0 : decide (i < 0) = true := decide_eq_true h0
    clear hi
    go_enter Try.func10, Try.ntmps10
    go_wp2
    go_ret3
    exact ⟨rfl, rfl⟩
  · have e0 : decide (i < 0) = false := decide_eq_false h0
    have h1 : (n : Int) ≤ i := by omega
    have e1 : decide (i ≥ (n : Int)) = true := decide_eq_true (by omega)
    clear hi
    go_enter Try.func10, Try.ntmps10
    go_wp2
    go_ret3
    exact ⟨rfl, rfl⟩

theorem owns_nd {w : World} {lo q n c : Nat} {e : TypeId} {l : List Nd} (h : w.ownsRow lo e 4 (.slice (some ⟨q, 0, none⟩) n c) n (ncels l)) {k : Nat} (hk : k < l.length) :
    w.cell? ⟨q, k * 4, none⟩ = some (.int .u8 ((nd l k).1 : Int)) ∧ w.cell? ⟨q, k * 4 + 1, none⟩ = some (.int .u32 ((nd l k).2.1 : Int)) ∧
    w.cell? ⟨q, k * 4 + 2, none⟩ = some (.int .u32 ((nd l k).2.2.1 : Int)) ∧ w.cell? ⟨q, k * 4 + 3, none⟩ = some (.int .u32 ((nd l k).2.2.2 : Int)) := by
  have hl := h.1
  have hl2 := ncels_len l
  have f : ∀ j v, j < 4 → (ncel (nd l k))[j]? = some v → w.cell? ⟨q, k * 4 + j, none⟩ = some v := fun j v hj hv => (h.cellAt (k * 4 + j) (by omega)).trans (ncels_at l k _ j v (nd_at hk) hv)
  exact ⟨f 0 _ (by omega) rfl, f 1 _ (by omega) rfl, f 2 _ (by omega) rfl, f 3 _ (by omega) rfl⟩

theorem owns_put {w : World} {lo q n c : Nat} {e : TypeId} {l : List Nd} (h : w.ownsRow lo e 4 (.slice (some ⟨q, 0, none⟩) n c) n (ncels l)) {k : Nat} (hk : k < l.length) (j : Nat) (v : Value) (y : Nd) (hj : j < 4) (hv : ncel y = (ncel (nd l k)).set j v) :
    (w.setCell ⟨q, k * 4 + j, none⟩ v).ownsRow lo e 4 (.slice (some ⟨q, 0, none⟩) n c) n (ncels (l.set k y)) := by
  rw [← ncels_set l k _ j v y (nd_at hk) hv hj]
  exact (h.stored _ _).1
theorem owns_put4 {w : World} {lo q n c : Nat} {e : TypeId} {l : List Nd} (h : w.ownsRow lo e 4 (.slice (some ⟨q, 0, none⟩) n c) n (ncels l)) {k : Nat} (hk : k < l.length) (y0 y1 y2 y3 : Nat) :
    ((((w.setCell ⟨q, k * 4, none⟩ (.int .u8 (y0 : Int))).setCell ⟨q, k * 4 + 1, none⟩ (.int .u32 (y1 : Int))).setCell ⟨q, k * 4 + 2, none⟩ (.int .u32 (y2 : Int))).setCell ⟨q, k * 4 + 3, none⟩ (.int .u32 (y3 : Int))).ownsRow lo e 4 (.slice (some ⟨q, 0, none⟩) n c) n (ncels (l.set k (y0, y1, y2, y3))) := by
  obtain ⟨x, hx⟩ : ∃ x, x = nd l k := ⟨_, rfl⟩
  obtain ⟨x0, x1, x2, x3⟩ := x
  have hl : ∀ y, k < (l.set k y).length := fun y => by rw [List.length_set]; exact hk
  have p1 := owns_put h hk 0 (.int .u8 (y0 : Int)) (y0, x1, x2, x3) (by omega) (by rw [← hx]; rfl)
  have p2 := owns_put p1 (hl _) 1 (.int .u32 (y1 : Int)) (y0, y1, x2, x3) (by omega) (by rw [nd_set hk]; rfl)
  rw [List.set_set] at p2
  have p3 := owns_put p2 (hl _) 2 (.int .u32 (y2 : Int)) (y0, y1, y2, x3) (by omega) (by rw [nd_set hk]; rfl)
  rw [List.set_set] at p3
  have p4 := owns_put p3 (hl _) 3 (.int .u32 (y3 : Int)) (y0, y1, y2, y3) (by omega) (by rw [nd_set hk]; rfl)
  rw [List.set_set] at p4
  exact p4

set_option maxRecDepth 100000 in
set_option maxHeartbeats 4000000 in
theorem refhear_in (w : World) (lo : Nat) (a : Option Addr) (n c : Nat) (l : List Nd) (i now life : Nat) (h : w.ownsRow lo RN 4 (.slice a n c) n (ncels l)) (hln : l.length = n) (hn16 : n ≤ 16) (hok : ∀ x ∈ l, NdOk x) (hi : i < n) (hn : now ≤ 4294967295) (hl : life ≤ 4294967295) :
    Calls Try.prog 10 #[.slice a n c, .int .i64 (i : Int), .int .u32 (now : Int), .int .u32 (life : Int)] w fun e w' => ∃ a' c',
      e = .returned (.tuple #[.slice a' n c', .bool (hear1 now life (nd l i)).2.1, .bool (hear1 now life (nd l i)).2.2]) ∧ w'.ownsRow w.heap.size RN 4 (.slice a' n c') n (ncels (l.set i (hear1 now life (nd l i)).1)) ∧ Below w.heap.size w w' := by
  have e0 : decide ((i : Int) < 0) = false := decide_eq_false (by omega)
  have e1 : decide ((i : Int) ≥ (n : Int)) = false := decide_eq_false (by omega)
  have hin : ¬ n ≤ i := by omega
  have hii : (i : Int) < (n : Int) := by omega
  have HLN := hid hln
  have HSRC := hid (((SrcC.of_own h).to (w' := w.alloc (.cells #[] RN)) (fun a ha => ((Below.refl _ w).alloc (Nat.le_refl _) _).cell ha)))
  have HO := hid (show (w.alloc (.cells #[] RN)).ownsRow w.heap.size RN 4 (.slice (some ⟨w.heap.size, 0, none⟩) 0 0) 0 (ncels []) from owns_madeN w w.heap.size RN [] (Nat.le_refl _) (by decide))
  have HL := hid (show (ncels l).length = n * 4 by rw [ncels_len, hln])
  have HOK := hid (hok _ (nd_mem (show i < l.length by omega)))
  have HB0 := hid (show Below w.heap.size w (w.alloc (.cells #[] RN)) from (Below.refl _ _).alloc (Nat.le_refl _) _)
  obtain ⟨x, hx⟩ : ∃ x, x = nd l i := ⟨_, rfl⟩
  rw [← hx] at HOK ⊢
  have HX := hid hx
  clear h hok hx
  go_enter Try.func10, Try.ntmps10
  go_upto_region 4 with (first | (at_builtin; (refine appsw (by rfl) 28 RN (.tmp 22) (.tmp 23) rfl w.heap.size 4 16 _ Try.underlying28 infoR rfl (by decide) (.slice (some ⟨w.heap.size, 0, none⟩) 0 0) (.slice a n c) 0 n n [] (ncels l) rfl rfl HO.out HSRC.out HL.out (ncels_one _) (by omega) (by omega) (by omega) (by simp) ?_); intro ad9 cp9 wA hoA hgA; have HOA := hid hoA; have HGA := hid hgA; clear hoA hgA) | fail)
  have hbA : Below w.heap.size w wA := HB0.out.grown HGA.out (by simp) (fun g hg => by simp [Value.ownBlock] at hg; omega)
  have hoA := HOA.out
  rw [List.nil_append] at hoA
  rcases owns_shape hoA with ⟨_, h0⟩ | ⟨q, cq, e, hq1, hq2, hq3, hq4⟩
  · omega
  simp only [Value.slice.injEq] at e
  obtain ⟨rfl, -, rfl⟩ := e
  have hil : i < l.length := by omega
  obtain ⟨c0, c1, c2, c3⟩ := owns_nd hoA hil
  have HOA2 := hid hoA
  have HBA := hid hbA
  obtain ⟨o1, o2, o3, o4⟩ := HOK.out
  rw [← HX.out] at c0 c1 c2 c3
  obtain ⟨x0, x1, x2, x3⟩ := x
  dsimp only at c0 c1 c2 c3 o1 o2 o3 o4
  have HIL := hid hil
  clear hoA hbA HOA HGA HO HSRC HL HOK HB0 hil
  obtain ⟨wB, hwB⟩ : ∃ wB, wB = wA.alloc (.cells #[.int .u8 (x0 : Int), .int .u32 (x1 : Int), .int .u32 (x2 : Int), .int .u32 (x3 : Int)] RN) := ⟨_, rfl⟩
  go_upto_region 5 with fail
  rw [← hwB]
  have hbB : Below wA.heap.size wA wB := by rw [hwB]; exact (Below.refl _ _).alloc (Nat.le_refl _) _
  have hx4 : wB.heap[wA.heap.size]? = some (.cells #[.int .u8 (x0 : Int), .int .u32 (x1 : Int), .int .u32 (x2 : Int), .int .u32 (x3 : Int)] RN (0, 0)) := by rw [hwB]; exact heap_alloc_new wA _
  have hoB := owns_below HOA2.out hbB
  have hnq : wA.heap.size ≠ q := by omega
  have hszB : wA.heap.size < wB.heap.size := (Array.getElem?_eq_some_iff.1 hx4).1
  have k0 : wB.cell? ⟨wA.heap.size, 0, none⟩ = some (.int .u8 (x0 : Int)) := (cell_of_row _ _ _ _ _ _ hx4).trans rfl
  have k1 : wB.cell? ⟨wA.heap.size, 1, none⟩ = some (.int .u32 (x1 : Int)) := (cell_of_row _ _ _ _ _ _ hx4).trans rfl
  have k3 : wB.cell? ⟨wA.heap.size, 3, none⟩ = some (.int .u32 (x3 : Int)) := (cell_of_row _ _ _ _ _ _ hx4).trans rfl
  have HX4 := hid hx4
  have HOB := hid hoB
  have HBB := hid (show Below w.heap.size w wB from HBA.out.trans (hbB.mono HBA.out.size))
  have HREF := hid (fun W => reflater_any (now : Int) 8 (by omega) (by omega) W)
  have HLE := hid (lat_of now)
  clear hwB hbB hx4 c0 c1 c2 c3
  by_cases h1 : x1 < life
  · have d1 : decide ((life : Int) > (x1 : Int)) = true := decide_eq_true (by omega)
    have HE := hid (show hear1 now life (x0, x1, x2, x3) = ((1, life, now, max x3 (lat now)), true, decide (x0 ≠ 0)) by unfold hear1; rw [if_pos h1])
    have HQ := hid (show ((x0 : Int) != 0) = decide (x0 ≠ 0) by by_cases h0 : x0 = 0 <;> simp [h0])
    have HP4 := hid (owns_put4 (w := wB.drew) hoB HIL.out 1 life now (max x3 (lat now)))
    have hK4 : ∀ v0 v1 v2 v3, Keeps (fun k => k = q) wB ((((wB.drew.setCell ⟨q, i * 4, none⟩ v0).setCell ⟨q, i * 4 + 1, none⟩ v1).setCell ⟨q, i * 4 + 2, none⟩ v2).setCell ⟨q, i * 4 + 3, none⟩ v3) := fun v0 v1 v2 v3 => (((((Keeps.refl (fun k => k = q) wB).drew).setCell (fun _ => rfl) _).setCell (fun _ => rfl) _).setCell (fun _ => rfl) _).setCell (fun _ => rfl) _
    have HK4 := hid hK4
    have f0 : wB.drew.frozen? ⟨q, i * 4, none⟩ = false := owns_frozen hoB _
    have f1 : wB.drew.frozen? ⟨q, i * 4 + 1, none⟩ = false := owns_frozen hoB _
    have f2 : wB.drew.frozen? ⟨q, i * 4 + 2, none⟩ = false := owns_frozen hoB _
    have f3 : wB.drew.frozen? ⟨q, i * 4 + 3, none⟩ = false := owns_frozen hoB _
    obtain ⟨c0, c1, c2, c3⟩ := owns_nd (w := wB.drew) hoB HIL.out
    rw [← HX.out] at c0 c1 c2 c3
    dsimp only at c0 c1 c2 c3
    have hlc : ∀ y, i < (l.set i y).length := fun y => by rw [List.length_set]; exact HIL.out
    have q1 := owns_put hoB HIL.out 0 (.int .u8 ((1 : Nat) : Int)) (1, x1, x2, x3) (by omega) (by rw [← HX.out]; rfl)
    have q2 := owns_put q1 (hlc _) 1 (.int .u32 (life : Int)) (1, life, x2, x3) (by omega) (by rw [nd_set HIL.out]; rfl)
    rw [List.set_set] at q2
    have q3 := owns_put q2 (hlc _) 2 (.int .u32 (now : Int)) (1, life, now, x3) (by omega) (by rw [nd_set HIL.out]; rfl)
    rw [List.set_set] at q3
    have g1 : (wB.setCell ⟨q, i * 4, none⟩ (.int .u8 1)).drew.frozen? ⟨q, i * 4 + 1, none⟩ = false := owns_frozen q1 _
    have g2 : ((wB.setCell ⟨q, i * 4, none⟩ (.int .u8 1)).setCell ⟨q, i * 4 + 1, none⟩ (.int .u32 (life : Int))).drew.frozen? ⟨q, i * 4 + 2, none⟩ = false := owns_frozen q2 _
    have g3 : (((wB.setCell ⟨q, i * 4, none⟩ (.int .u8 1)).setCell ⟨q, i * 4 + 1, none⟩ (.int .u32 (life : Int))).setCell ⟨q, i * 4 + 2, none⟩ (.int .u32 (now : Int))).drew.frozen? ⟨q, i * 4 + 3, none⟩ = false := owns_frozen q3 _
    obtain ⟨-, r1, -, -⟩ := owns_nd q1 (hlc _)
    obtain ⟨-, -, r2, -⟩ := owns_nd q2 (hlc _)
    obtain ⟨-, -, -, r3⟩ := owns_nd q3 (hlc _)
    rw [nd_set HIL.out] at r1 r2 r3
    have s1 : (wB.setCell ⟨q, i * 4, none⟩ (.int .u8 1)).drew.cell? ⟨q, i * 4 + 1, none⟩ = some (.int .u32 (x1 : Int)) := r1
    have s2 : ((wB.setCell ⟨q, i * 4, none⟩ (.int .u8 1)).setCell ⟨q, i * 4 + 1, none⟩ (.int .u32 (life : Int))).drew.cell? ⟨q, i * 4 + 2, none⟩ = some (.int .u32 (x2 : Int)) := r2
    have s3 : (((wB.setCell ⟨q, i * 4, none⟩ (.int .u8 1)).setCell ⟨q, i * 4 + 1, none⟩ (.int .u32 (life : Int))).setCell ⟨q, i * 4 + 2, none⟩ (.int .u32 (now : Int))).drew.cell? ⟨q, i * 4 + 3, none⟩ = some (.int .u32 (x3 : Int)) := r3
    clear q1 q2 q3 r1 r2 r3
    clear hoB hK4
    generalize lat now = z at *
    by_cases hm : x3 < z
    · rw [Nat.max_eq_right (Nat.le_of_lt hm)] at *
      go_upto_region 6 with fail
      go_region_with (first | (go_at_call 17; refine (HREF.out _).mono ?_; rintro e w' ⟨rfl, rfl⟩; rw [HLE.out]) | fail)
      all_goals
        obtain ⟨wC, hwC⟩ : ∃ wC, wC = ((((wB.setCell ⟨q, i * 4, none⟩ (.int .u8 1)).setCell ⟨q, i * 4 + 1, none⟩ (.int .u32 (life : Int))).setCell ⟨q, i * 4 + 2, none⟩ (.int .u32 (now : Int))).setCell ⟨q, i * 4 + 3, none⟩ (.int .u32 (z : Int))).drew := ⟨_, rfl⟩
        rw [← hwC]
        have HOC := hid (show wC.ownsRow w.heap.size RN 4 (.slice (some ⟨q, 0, none⟩) n cp9) n (ncels (l.set i (1, life, now, z))) from by rw [hwC]; exact HP4.out)
        have HKC := hid (show Keeps (fun k => k = q) wB wC from by rw [hwC]; exact HK4.out _ _ _ _)
        have HBC := hid (show Below w.heap.size w wC from HBB.out.trans (HKC.out.below (by have := HBA.out.size; omega) (by rintro k rfl; exact hq1)))
        have kc : wC.cell? ⟨wA.heap.size, 0, none⟩ = some (.int .u8 (x0 : Int)) := (HKC.out.cell (p := ⟨wA.heap.size, 0, none⟩) hszB hnq).trans k0
        have kd : wC.drew.cell? ⟨wA.heap.size, 0, none⟩ = some (.int .u8 (x0 : Int)) := kc
        clear hwC f0 f1 f2 f3 g1 g2 g3 s1 s2 s3 c0 c1 c2 c3 k0 k1 k3
        go_upto_region 7 with fail
        go_region
      all_goals
        go_wp2_with fail
        go_ret3
        rw [HE.out]
        refine ⟨some ⟨q, 0, none⟩, cp9, congrArg (fun b => Ending.returned (.tuple #[.slice (some ⟨q, 0, none⟩) n cp9, .bool true, .bool b])) HQ.out, HOC.out, HBC.out.drew⟩
    · rw [Nat.max_eq_left (Nat.le_of_not_lt hm)] at *
      go_upto_region 6 with fail
      go_region_with (first | (go_at_call 17; refine (HREF.out _).mono ?_; rintro e w' ⟨rfl, rfl⟩; rw [HLE.out]) | fail)
      all_goals
        obtain ⟨wC, hwC⟩ : ∃ wC, wC = ((((wB.setCell ⟨q, i * 4, none⟩ (.int .u8 1)).setCell ⟨q, i * 4 + 1, none⟩ (.int .u32 (life : Int))).setCell ⟨q, i * 4 + 2, none⟩ (.int .u32 (now : Int))).setCell ⟨q, i * 4 + 3, none⟩ (.int .u32 (x3 : Int))).drew := ⟨_, rfl⟩
        rw [← hwC]
        have HOC := hid (show wC.ownsRow w.heap.size RN 4 (.slice (some ⟨q, 0, none⟩) n cp9) n (ncels (l.set i (1, life, now, x3))) from by rw [hwC]; exact HP4.out)
        have HKC := hid (show Keeps (fun k => k = q) wB wC from by rw [hwC]; exact HK4.out _ _ _ _)
        have HBC := hid (show Below w.heap.size w wC from HBB.out.trans (HKC.out.below (by have := HBA.out.size; omega) (by rintro k rfl; exact hq1)))
        have kc : wC.cell? ⟨wA.heap.size, 0, none⟩ = some (.int .u8 (x0 : Int)) := (HKC.out.cell (p := ⟨wA.heap.size, 0, none⟩) hszB hnq).trans k0
        have kd : wC.drew.cell? ⟨wA.heap.size, 0, none⟩ = some (.int .u8 (x0 : Int)) := kc
        clear hwC f0 f1 f2 f3 g1 g2 g3 s1 s2 s3 c0 c1 c2 c3 k0 k1 k3
        go_upto_region 7 with fail
        go_region
      all_goals
        go_wp2_with fail
        go_ret3
        rw [HE.out]
        refine ⟨some ⟨q, 0, none⟩, cp9, congrArg (fun b => Ending.returned (.tuple #[.slice (some ⟨q, 0, none⟩) n cp9, .bool true, .bool b])) HQ.out, HOC.out, HBC.out.drew⟩
  · have d1 : decide ((life : Int) > (x1 : Int)) = false := decide_eq_false (by omega)
    by_cases h2 : life = x1 ∧ x0 ≠ 0
    · have HE := hid (show hear1 now life (x0, x1, x2, x3) = ((x0, x1, now, x3), false, false) by unfold hear1; rw [if_neg h1, if_pos h2])
      have d2 : decide ((life : Int) = (x1 : Int)) = true := decide_eq_true (by omega)
      have d3 : decide ((x0 : Int) = 0) = false := decide_eq_false (by omega)
      have HPU := hid (owns_put hoB HIL.out 2 (.int .u32 (now : Int)) (x0, x1, now, x3) (by omega) (by rw [← HX.out]; rfl))
      have f2 : wB.frozen? ⟨q, i * 4 + 2, none⟩ = false := owns_frozen hoB _
      obtain ⟨-, -, c2, -⟩ := owns_nd hoB HIL.out
      rw [← HX.out] at c2
      dsimp only at c2
      have n1 : life = x1 := h2.1
      have n0 : x0 ≠ 0 := h2.2
      have HKC := hid (show Keeps (fun k => k = q) wB (wB.setCell ⟨q, i * 4 + 2, none⟩ (.int .u32 (now : Int))) from (Keeps.refl (fun k => k = q) wB).setCell (fun _ => rfl) _)
      have HBC := hid (show Below w.heap.size w (wB.setCell ⟨q, i * 4 + 2, none⟩ (.int .u32 (now : Int))) from HBB.out.trans (HKC.out.below (by have := HBA.out.size; omega) (by rintro k rfl; exact hq1)))
      clear hoB h2
      go_wp2_with fail
      go_ret3
      rw [HE.out]
      exact ⟨_, _, rfl, HPU.out, HBC.out⟩
    · have HE := hid (show hear1 now life (x0, x1, x2, x3) = ((x0, x1, x2, x3), false, false) by unfold hear1; rw [if_neg h1, if_neg h2])
      have HS := hid (show l.set i (x0, x1, x2, x3) = l from by rw [HX.out]; unfold nd; rw [List.getD_eq_getElem?_getD, List.getElem?_eq_getElem HIL.out]; exact List.set_getElem_self HIL.out)
      by_cases h3 : life = x1
      · have h4 : x0 = 0 := by omega
        have d2 : decide ((life : Int) = (x1 : Int)) = true := decide_eq_true (by omega)
        have d3 : decide ((x0 : Int) = 0) = true := decide_eq_true (by omega)
        clear hoB h2
        go_wp2_with fail
        go_ret3
        rw [HE.out, HS.out]
        exact ⟨_, _, rfl, HOB.out, HBB.out⟩
      · have d2 : decide ((life : Int) = (x1 : Int)) = false := decide_eq_false (by omega)
        clear hoB h2
        go_wp2_with fail
        go_ret3
        rw [HE.out, HS.out]
        exact ⟨_, _, rfl, HOB.out, HBB.out⟩

theorem refhear_any (w : World) (lo : Nat) (v : Value) (l : List Nd) (i : Int) (now life : Nat) (h : w.ownsRow lo RN 4 v l.length (ncels l)) (hn16 : l.length ≤ 16) (hok : ∀ x ∈ l, NdOk x) (hn : now ≤ 4294967295) (hl : life ≤ 4294967295) (hlo : lo ≤ w.heap.size) :
    Calls Try.prog 10 #[v, .int .i64 i, .int .u32 (now : Int), .int .u32 (life : Int)] w fun e w' => ∃ v',
      e = .returned (.tuple #[v', .bool (hear l i now life).2.1, .bool (hear l i now life).2.2]) ∧ w'.ownsRow lo RN 4 v' (hear l i now life).1.length (ncels (hear l i now life).1) ∧ Below w.heap.size w w' := by
  obtain ⟨a, c, rfl, -, -⟩ := owns_slice h
  unfold hear
  by_cases hi : i < 0 ∨ (l.length : Int) ≤ i
  · rw [if_pos hi]
    refine (refhear_out w a l.length c i now life hi).mono ?_
    rintro e w' ⟨rfl, rfl⟩
    exact ⟨_, rfl, h, Below.refl _ _⟩
  · rw [if_neg hi]
    obtain ⟨k, rfl⟩ : ∃ k : Nat, i = (k : Int) := ⟨i.toNat, by omega⟩
    refine (refhear_in w lo a l.length c l k now life h rfl hn16 hok (by omega) hn hl).mono ?_
    rintro e w' ⟨a', c', rfl, ho, hb⟩
    rw [List.length_set]
    exact ⟨_, rfl, owns_base ho hlo, hb⟩

end Go.Proofs.Ytljnkebmdegcpaa
