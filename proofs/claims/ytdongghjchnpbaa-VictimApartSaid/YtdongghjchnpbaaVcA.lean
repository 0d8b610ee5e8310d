/-
  Layer 15: the document's example.
-/
import Derived.Test.YtdongghjchnpbaaVcG
import Derived.Test.YtdongghjchnpbaaRowX
import Derived.Test.YtdongghjchnpbaaVcB
namespace Go.Proofs.Ytdongghjchnpbaa
open Go.RowKit Go.Shelf
set_option linter.unusedVariables false
set_option linter.unusedSimpArgs false

theorem sortC_of {q : List Cd} (h : q.Pairwise CBef) : sortC q = q := by
  have hn : q.Nodup := by
    refine List.Pairwise.imp ?_ h
    intro a b hab e
    subst e
    exact cbef_irr _ hab
  exact List.Perm.eq_of_pairwise (le := CBef) (fun a b _ _ h1 h2 => absurd h2 (cbef_asym h1)) (sortC_sorted hn) h (sortC_perm q)

def sv0 : Mx := mx0 1 3
def sv1 : Mx := sv0.stand 0 [0, 1] 1
def sv2 : Mx := sv1.stand 0 [2] 2
def lv0 : List Cd := [(1, 0), (2, 1)]

theorem sv_1 : sv0.where 1 = none ∧ sv0.fit 0 [0, 1] = true ∧ OkL sv0.n [0, 1] := ⟨by decide, by decide, by unfold OkL; decide⟩
theorem sv_2 : sv1.where 2 = none ∧ sv1.fit 0 [2] = true ∧ OkL sv1.n [2] := ⟨by decide, by decide, by unfold OkL; decide⟩
theorem sv_f : (sv2.free 0).length = 0 := by decide +kernel
theorem sv_l2 : sv2.lows 0 lv0 2 = [(1, 0), (2, 1)] := by decide +kernel
theorem sv_l0 : sv2.lows 0 lv0 0 = [] := by decide +kernel
theorem sv_c1 : sv2.cnt 1 = 2 := by decide +kernel
theorem sv_c2 : sv2.cnt 2 = 1 := by decide +kernel
theorem sv_w2 : sv2.who 0 lv0 2 = [(1, 0), (2, 1)] := by unfold Mx.who; rw [sv_l2]; exact sortC_of (by simp [CBef])
theorem sv_w0 : sv2.who 0 lv0 0 = [] := by unfold Mx.who; rw [sv_l0]; exact sortC_of List.Pairwise.nil
theorem sv_b1 : best15 (fun r => sv2.leave r lv0 2 1) 1 = some (0, [(1, 0)]) := by
  refine step15_first ?_ rfl
  show sv2.leave 0 lv0 2 1 = some [(1, 0)]
  unfold Mx.leave
  rw [if_neg (by decide), sv_f, sv_w2]
  simp [Mx.lv, sv_c1, sv_c2]
theorem sv_b3 : best15 (fun r => sv2.leave r lv0 2 3) 1 = some (0, [(1, 0), (2, 1)]) := by
  refine step15_first ?_ rfl
  show sv2.leave 0 lv0 2 3 = some [(1, 0), (2, 1)]
  unfold Mx.leave
  rw [if_neg (by decide), sv_f, sv_w2]
  simp [Mx.lv, sv_c1, sv_c2]
theorem sv_b0 : best15 (fun r => sv2.leave r lv0 0 1) 1 = none := by
  refine (step15_none ?_).trans rfl
  show sv2.leave 0 lv0 0 1 = none
  unfold Mx.leave
  rw [if_neg (by decide), sv_f, sv_w0]
  simp [Mx.lv]

theorem RdC.lit (w : World) (t : TypeId) : RdC (w.alloc (.cells #[.int .u32 1, .int .u8 0, .int .u32 2, .int .u8 1] t)) (.slice (some ⟨w.heap.size, 0, none⟩) 2 2) lv0 := by
  have hg := heap_alloc_new w (.cells #[.int .u32 1, .int .u8 0, .int .u32 2, .int .u8 1] t)
  have hs : w.heap.size < (w.alloc (.cells #[.int .u32 1, .int .u8 0, .int .u32 2, .int .u8 1] t)).heap.size := by simp
  refine ⟨_, 2, rfl, Nat.le_refl _, by omega, fun k x hx => ?_⟩
  match k, hx with
  | 0, hx =>
    cases hx
    exact ⟨by decide, by decide, _, 0, rfl, hs, (cell_of_row _ _ _ _ _ _ hg).trans rfl, (cell_of_row _ _ _ _ _ _ hg).trans rfl⟩
  | 1, hx =>
    cases hx
    exact ⟨by decide, by decide, _, 0, rfl, hs, (cell_of_row _ _ _ _ _ _ hg).trans rfl, (cell_of_row _ _ _ _ _ _ hg).trans rfl⟩
  | k + 2, hx => cases hx

theorem lv0_b : ∀ x ∈ lv0, x.1 < 4294967296 ∧ x.2 < 256 := by decide

set_option maxRecDepth 100000 in
set_option maxHeartbeats 16000000 in
theorem awake15_any (w : World) : Calls Try.prog 24 #[] w fun e w' => e = .returned (.bool true) ∧ Below w.heap.size w w' := by
  go_enter Try.func24, Try.ntmps24
  go_wp2_with fail
  refine (new_yes w 1 3 (by omega) (by omega) (by omega) (by omega)).mono ?_
  rintro e w1 ⟨rfl, h1, b1⟩
  have H1 := hid (show MxAt w1 w.heap.size sv0 from h1)
  have B1 := hid b1
  have s1 := h1.lt
  clear h1 b1
  have L1 := hid (show RdV (w1.alloc (.cells #[.int .i64 0, .int .i64 1] 3)) (.slice (some ⟨w1.heap.size, 0, none⟩) 2 2) ([0, 1].map iv) from RdV.lit w1 _ _ _ _ rfl rfl (by simp))
  have C1 := hid ((Below.refl _ w1).alloc (Nat.le_refl _) (.cells #[.int .i64 0, .int .i64 1] 3))
  have t1 : w1.heap.size ≤ (w1.alloc (.cells #[.int .i64 0, .int .i64 1] 3)).heap.size := by simp
  go_wp2_with fail
  refine (put_yes (w1.alloc (.cells #[.int .i64 0, .int .i64 1] 3)) w.heap.size 1 0 _ [0, 1] sv0 (H1.out.below C1.out s1) L1.out (by rintro g o n c e; simp only [Value.slice.injEq, Option.some.injEq, Addr.mk.injEq] at e; omega) (by omega) (by omega) (by decide) sv_1.2.2 sv_1.1 sv_1.2.1).mono ?_
  rintro e w2 ⟨rfl, h2, k2⟩
  have H2 := hid (show MxAt w2 w.heap.size sv1 from h2)
  have K2 := hid k2
  have s2 := k2.size
  clear h2 k2
  have L2 := hid (show RdV (w2.alloc (.cells #[.int .i64 2] 3)) (.slice (some ⟨w2.heap.size, 0, none⟩) 1 1) ([2].map iv) from RdV.lit w2 _ _ _ _ rfl rfl (by simp))
  have C2 := hid ((Below.refl _ w2).alloc (Nat.le_refl _) (.cells #[.int .i64 2] 3))
  have t2 : w2.heap.size ≤ (w2.alloc (.cells #[.int .i64 2] 3)).heap.size := by simp
  go_wp2_with fail
  refine (put_yes (w2.alloc (.cells #[.int .i64 2] 3)) w.heap.size 2 0 _ [2] sv1 (H2.out.below C2.out (by omega)) L2.out (by rintro g o n c e; simp only [Value.slice.injEq, Option.some.injEq, Addr.mk.injEq] at e; omega) (by omega) (by omega) (by decide) sv_2.2.2 sv_2.1 sv_2.2.1).mono ?_
  rintro e w3 ⟨rfl, h3, k3⟩
  have s3 := k3.size
  have hbw3 : Below w.heap.size w w3 := B1.out.trans ((C1.out.mono (by omega)).trans ((K2.out.below (by omega) (fun i hi => by omega)).trans ((C2.out.mono (by omega)).trans (k3.below (by omega) (fun i hi => by omega)))))
  have HB3 := hid hbw3
  have H3 := hid (show MxAt w3 w.heap.size sv2 from h3)
  clear h3 k3 hbw3 H1 B1 L1 C1 H2 K2 L2 C2 t1 t2
  obtain ⟨y, hy⟩ : ∃ y, y = w3.alloc (.cells #[.int .u32 1, .int .u8 0, .int .u32 2, .int .u8 1] 80) := ⟨_, rfl⟩
  have HR := hid (show RdC y (.slice (some ⟨w3.heap.size, 0, none⟩) 2 2) lv0 by rw [hy]; exact RdC.lit w3 _)
  have hby : Below w3.heap.size w3 y := by rw [hy]; exact (Below.refl _ _).alloc (Nat.le_refl _) _
  have HY := hid (HB3.out.trans (hby.mono HB3.out.size))
  have HM := hid (H3.out.below hby H3.out.lt)
  obtain ⟨pa, hpa⟩ : ∃ p, p = w3.heap.size := ⟨_, rfl⟩
  rw [← hpa] at HR
  have HML := hid (show w.heap.size < y.heap.size from HM.out.lt)
  clear hby
  go_upto_region 5 with (fail)
  rw [← hy, ← hpa]
  clear hy hpa s1 s2 s3
  have HC5 := hid (choose15_any y w.heap.size sv2 _ lv0 2 1 (HM.out.below (Below.refl _ _) HML.out) (HR.out.below (Below.refl _ _)) (by decide) (by decide) lv0_b)
  rw [show sv2.r = 1 from rfl, sv_b1] at HC5
  go_upto_region 6 with (first
    | (go_at_call 26; (refine HC5.out.mono ?_); rintro e w5 ⟨hb5, u5, rfl, ho5⟩; obtain ⟨a5, c5, rfl, -, -⟩ := owns_slice ho5; have HB5 := hid hb5; have HO5 := hid ho5; clear hb5 ho5)
    | fail)
  have HO5 := hid (show w5.ownsRow y.heap.size 33 1 (.slice a5 1 c5) 1 ([1].map uv) from HO5.out)
  obtain ⟨y5, hy5⟩ : ∃ z, z = w5.alloc (.cells #[.int .i64 0, .slice a5 1 c5] 62) := ⟨_, rfl⟩
  have hq5 : Below w5.heap.size w5 y5 := by rw [hy5]; exact (Below.refl _ _).alloc (Nat.le_refl _) _
  have hg5 : y5.heap[w5.heap.size]? = some (.cells #[.int .i64 0, .slice a5 1 c5] 62 (0, 0)) := by rw [hy5]; exact heap_alloc_new w5 _
  obtain ⟨p5, hp5⟩ : ∃ p, p = w5.heap.size := ⟨_, rfl⟩
  rw [← hp5] at hg5
  have HG5 := hid hg5
  have HQ5 := hid (show Below y.heap.size y y5 from HB5.out.trans (hq5.mono HB5.out.size))
  have HO5 := hid (owns_below HO5.out hq5)
  have HS5 := hid (show w5.heap.size ≤ y5.heap.size from hq5.size)
  have HT5 := hid (show Below y.heap.size y y5 from HB5.out.trans (hq5.mono HB5.out.size))
  rw [← hy5, ← hp5]
  clear hy5 hq5 hg5 hp5
  have HC6 := hid (choose15_any y5 w.heap.size sv2 _ lv0 2 3 (HM.out.below HQ5.out HML.out) (HR.out.below HQ5.out) (by decide) (by decide) lv0_b)
  rw [show sv2.r = 1 from rfl, sv_b3] at HC6
  go_upto_region 7 with (first
    | (go_at_call 26; (refine HC6.out.mono ?_); rintro e w6 ⟨hb6, u6, rfl, ho6⟩; obtain ⟨a6, c6, rfl, -, -⟩ := owns_slice ho6; have HB6 := hid hb6; have HO6 := hid ho6; clear hb6 ho6)
    | fail)
  have HO6 := hid (show w6.ownsRow y5.heap.size 33 1 (.slice a6 2 c6) 2 ([1, 2].map uv) from HO6.out)
  obtain ⟨y6, hy6⟩ : ∃ z, z = w6.alloc (.cells #[.int .i64 0, .slice a6 2 c6] 62) := ⟨_, rfl⟩
  have hq6 : Below w6.heap.size w6 y6 := by rw [hy6]; exact (Below.refl _ _).alloc (Nat.le_refl _) _
  have hg6 : y6.heap[w6.heap.size]? = some (.cells #[.int .i64 0, .slice a6 2 c6] 62 (0, 0)) := by rw [hy6]; exact heap_alloc_new w6 _
  obtain ⟨p6, hp6⟩ : ∃ p, p = w6.heap.size := ⟨_, rfl⟩
  rw [← hp6] at hg6
  have HG6 := hid hg6
  have HQ6 := hid (show Below y.heap.size y y6 from (HQ5.out.trans (HB6.out.mono HQ5.out.size)).trans (hq6.mono (HQ5.out.trans (HB6.out.mono HQ5.out.size)).size))
  have HO6 := hid (owns_below HO6.out hq6)
  have HS6 := hid (show w6.heap.size ≤ y6.heap.size from hq6.size)
  have HT6 := hid (show Below y5.heap.size y5 y6 from HB6.out.trans (hq6.mono HB6.out.size))
  rw [← hy6, ← hp6]
  clear hy6 hq6 hg6 hp6
  have HC7 := hid (choose15_any y6 w.heap.size sv2 _ lv0 0 1 (HM.out.below HQ6.out HML.out) (HR.out.below HQ6.out) (by decide) (by decide) lv0_b)
  rw [show sv2.r = 1 from rfl, sv_b0] at HC7
  go_upto_region 8 with (first
    | (go_at_call 26; (refine HC7.out.mono ?_); rintro e w7 ⟨hb7, rfl⟩; have HB7 := hid hb7; clear hb7)
    | fail)
  obtain ⟨y7, hy7⟩ : ∃ z, z = w7.alloc (.cells #[.int .i64 0, .slice none 0 0] 62) := ⟨_, rfl⟩
  have hq7 : Below w7.heap.size w7 y7 := by rw [hy7]; exact (Below.refl _ _).alloc (Nat.le_refl _) _
  have hg7 : y7.heap[w7.heap.size]? = some (.cells #[.int .i64 0, .slice none 0 0] 62 (0, 0)) := by rw [hy7]; exact heap_alloc_new w7 _
  obtain ⟨p7, hp7⟩ : ∃ p, p = w7.heap.size := ⟨_, rfl⟩
  rw [← hp7] at hg7
  have HG7 := hid hg7
  have HQ7 := hid (show Below y.heap.size y y7 from (HQ6.out.trans (HB7.out.mono HQ6.out.size)).trans (hq7.mono (HQ6.out.trans (HB7.out.mono HQ6.out.size)).size))
  have HS7 := hid (show w7.heap.size ≤ y7.heap.size from hq7.size)
  have HT7 := hid (show Below y6.heap.size y6 y7 from HB7.out.trans (hq7.mono HB7.out.size))
  rw [← hy7, ← hp7]
  clear hy7 hq7 hg7 hp7
  have x5 : y7.cell? ⟨p5, 1, none⟩ = some (.slice a5 1 c5) := (cell_of_row _ _ _ _ _ _ ((HT7.out.block p5 (Nat.lt_of_lt_of_le (Array.getElem?_eq_some_iff.1 HG5.out).1 HT6.out.size)).trans ((HT6.out.block p5 (Array.getElem?_eq_some_iff.1 HG5.out).1).trans HG5.out))).trans rfl
  have x6 : y7.cell? ⟨p6, 1, none⟩ = some (.slice a6 2 c6) := (cell_of_row _ _ _ _ _ _ ((HT7.out.block p6 (Array.getElem?_eq_some_iff.1 HG6.out).1).trans HG6.out)).trans rfl
  have R5 := hid (show RdV y7 (.slice a5 1 c5) ([1].map uv) from RdV.of_own (owns_below (owns_below HO5.out HT6.out) HT7.out))
  have R6 := hid (show RdV y7 (.slice a6 2 c6) ([1, 2].map uv) from RdV.of_own (owns_below HO6.out HT7.out))
  have C8 := hid ((Below.refl _ y7).alloc (Nat.le_refl _) (.cells #[.int .u32 1] 33))
  have L8 := hid (show RdV (y7.alloc (.cells #[.int .u32 1] 33)) (.slice (some ⟨y7.heap.size, 0, none⟩) 1 1) ([1].map uv) from RdV.lit y7 _ _ _ _ rfl rfl (by simp))
  have S8 := hid (same_any _ _ _ _ _ (R5.out.all C8.out) L8.out)
  clear HC5 HC6 HC7
  go_wp2_with (first
    | (go_at_call 30; (with_reducible refine S8.out.mono ?_); rintro e w8 ⟨rfl, hb8⟩; have HB8 := hid (C8.out.trans (hb8.mono C8.out.size)); have L9 := hid (show RdV (w8.alloc (.cells #[.int .u32 1, .int .u32 2] 33)) (.slice (some ⟨w8.heap.size, 0, none⟩) 2 2) ([1, 2].map uv) from RdV.lit w8 _ _ _ _ rfl rfl (by simp)); have C9 := hid ((Below.refl _ w8).alloc (Nat.le_refl _) (.cells #[.int .u32 1, .int .u32 2] 33)); have S9 := hid (same_any _ _ _ _ _ ((R6.out.all HB8.out).all C9.out) L9.out); have y5c := (HB8.out.cell (p := ⟨p6, 1, none⟩) (World.block_lt_of_cell? _ _ x6)).trans x6; clear hb8)
    | (go_at_call 30; (with_reducible refine S9.out.mono ?_); rintro e w9 ⟨rfl, hb9⟩; have HB9 := hid (C9.out.trans (hb9.mono C9.out.size)); clear hb9)
    | fail)
  go_ret
  exact ⟨rfl, HY.out.trans ((HQ7.out.trans ((HB8.out.trans (HB9.out.mono HB8.out.size)).mono HQ7.out.size)).mono HY.out.size)⟩

end Go.Proofs.Ytdongghjchnpbaa
