/-
  tell.
-/
import Derived.Test.YtahiaifdfgkemaaJbG
namespace Go.Proofs.Ytahiaifdfgkemaa
open Go.RowKit
set_option linter.unusedVariables false
set_option linter.unusedSimpArgs false

def Tb.tell (t : Tb) (z : Nat) (r : Note.R) : Note.R :=
  if (t.job z).2 = true then ⟨r.cl, r.s, r.e, (t.job z).1.1, (t.job z).1.2.2.2.2.1, (t.job z).1.2.2.2.2.2⟩ else ⟨r.cl, r.s, 6, r.j, r.st, r.c⟩

set_option maxRecDepth 100000 in
set_option maxHeartbeats 4000000 in
theorem tell_any (w : World) (lo b z : Nat) (va vo : Value) (t : Tb) (r : Note.R) (h : TbAt w lo b va vo t) :
    Calls Try.prog 20 #[.pointer (some ⟨b, 0, none⟩), .int .u32 (z : Int), .agg #[.int .u8 (r.cl : Int), .int .u32 (r.s : Int), .int .i64 r.e, .int .u32 (r.j : Int), .int .u8 (r.st : Int), .int .i64 r.c]] w fun e w' => e = .returned (rv (t.tell z r)) ∧ Below w.heap.size w w' := by
  obtain ⟨g5, hg5⟩ : ∃ g, g = w.heap.size := ⟨_, rfl⟩
  obtain ⟨g6, hg6⟩ : ∃ g, g = g5 + 1 := ⟨_, rfl⟩
  obtain ⟨w1, hw1⟩ : ∃ w1, w1 = (w.alloc (.cells #[.int .u8 (r.cl : Int), .int .u32 (r.s : Int), .int .i64 r.e, .int .u32 (r.j : Int), .int .u8 (r.st : Int), .int .i64 r.c] 37)).alloc (.cells #[.int .u8 0, .int .u32 0, .int .i64 0, .int .u32 0, .int .u8 0, .int .i64 0] 37) := ⟨_, rfl⟩
  have hb1 : Below w.heap.size w w1 := by rw [hw1]; exact ((Below.refl _ w).alloc (Nat.le_refl _) _).alloc (by simp) _
  have hs1 : w1.heap.size = w.heap.size + 2 := by rw [hw1]; simp
  have x6 : w1.heap[g6]? = some (.cells #[.int .u8 0, .int .u32 0, .int .i64 0, .int .u32 0, .int .u8 0, .int .i64 0] 37 (0, 0)) := by rw [hw1, hg6, hg5]; exact (by have := heap_alloc_new (w.alloc (.cells #[.int .u8 (r.cl : Int), .int .u32 (r.s : Int), .int .i64 r.e, .int .u32 (r.j : Int), .int .u8 (r.st : Int), .int .i64 r.c] 37)) (.cells #[.int .u8 0, .int .u32 0, .int .i64 0, .int .u32 0, .int .u8 0, .int .i64 0] 37); simpa using this)
  have x5 : w1.heap[g5]? = some (.cells #[.int .u8 (r.cl : Int), .int .u32 (r.s : Int), .int .i64 r.e, .int .u32 (r.j : Int), .int .u8 (r.st : Int), .int .i64 r.c] 37 (0, 0)) := by
    rw [hw1, hg5]
    refine (((Below.refl _ (w.alloc (.cells #[.int .u8 (r.cl : Int), .int .u32 (r.s : Int), .int .i64 r.e, .int .u32 (r.j : Int), .int .u8 (r.st : Int), .int .i64 r.c] 37))).alloc (Nat.le_refl _) _).block _ (by simp)).trans ?_
    exact heap_alloc_new w _
  have HX5 := hid x5
  have HX6 := hid x6
  have HB1 := hid hb1
  have HGS := hid (show w.heap.size ≤ g5 ∧ w.heap.size ≤ g6 ∧ g5 < g6 ∧ g6 < w1.heap.size by omega)
  have HG := hid (And.intro hg5 hg6)
  have HJ := hid (job_any w1 lo b z va vo t (h.below hb1))
  have HW1 := hid hw1
  have HTE := hid (show t.tell z r = if (t.job z).2 = true then (⟨r.cl, r.s, r.e, (t.job z).1.1, (t.job z).1.2.2.2.2.1, (t.job z).1.2.2.2.2.2⟩ : Note.R) else ⟨r.cl, r.s, 6, r.j, r.st, r.c⟩ from rfl)
  obtain ⟨y, hy⟩ : ∃ y, y = (t.job z).1 := ⟨_, rfl⟩
  obtain ⟨ok, hok⟩ : ∃ y, y = (t.job z).2 := ⟨_, rfl⟩
  rw [← hy, ← hok] at HJ HTE
  clear h hb1 hs1 x5 x6 hg5 hg6 hw1 hy hok
  obtain ⟨x0, x1, x2, x3, x4, x5⟩ := y
  unfold jv at HJ
  dsimp only at HJ HTE
  go_enter Try.func20, Try.ntmps20
  go_wp2_with fail
  rw [← HW1.out]
  simp only [← HG.out.1]
  try rw [← HG.out.2]
  try simp only [← HG.out.2]
  refine HJ.out.mono ?_
  rintro e w2 ⟨rfl, hb2⟩
  obtain ⟨g7, hg7⟩ : ∃ g, g = w2.heap.size := ⟨_, rfl⟩
  obtain ⟨w3, hw3⟩ : ∃ z, z = w2.alloc (.cells #[.int .u32 (x0 : Int), .int .u8 (x1 : Int), .int .i64 x2, .int .i64 x3, .int .u8 (x4 : Int), .int .i64 x5] 44) := ⟨_, rfl⟩
  have hb3 : Below w2.heap.size w2 w3 := by rw [hw3]; exact (Below.refl _ _).alloc (Nat.le_refl _) _
  have HX7 := hid (show w3.heap[g7]? = some (.cells #[.int .u32 (x0 : Int), .int .u8 (x1 : Int), .int .i64 x2, .int .i64 x3, .int .u8 (x4 : Int), .int .i64 x5] 44 (0, 0)) by rw [hw3, hg7]; exact heap_alloc_new w2 _)
  have HX5 := hid ((hb3.block g5 (by have := HGS.out; have := hb2.size; omega)).trans ((hb2.block g5 (by have := HGS.out; omega)).trans HX5.out))
  have HX6 := hid ((hb3.block g6 (by have := HGS.out; have := hb2.size; omega)).trans ((hb2.block g6 (by have := HGS.out; omega)).trans HX6.out))
  have HB3 := hid ((HB1.out.trans (hb2.mono HB1.out.size)).trans (hb3.mono (by have := HB1.out.size; have := hb2.size; omega)))
  have HG7 := hid (show g6 < g7 by have := HGS.out; have := hb2.size; omega)
  have HW3 := hid hw3
  have HGG := hid hg7
  clear hb2 hb3 hw3 hg7
  rcases ok with _ | _
  · have s2 : w3.cell? ⟨g5, 2, none⟩ = some (.int .i64 r.e) := (cell_of_row _ _ _ _ _ _ HX5.out).trans rfl
    have zs2 : w3.frozen? ⟨g5, 2, none⟩ = false := frozen_of_row _ _ _ _ _ HX5.out
    rw [HW3.out] at s2 zs2
    go_upto_region 4 with (fail)
    rw [← HW3.out]
    simp only [← HGG.out]
    rw [← HW3.out] at s2 zs2
    obtain ⟨w4, hw4⟩ : ∃ z, z = w3.setCell ⟨g5, 2, none⟩ (.int .i64 6) := ⟨_, rfl⟩
    have HX6 := hid (show w4.heap[g6]? = _ from ((show Keeps (fun k => k = g5) w3 w4 by rw [hw4]; exact kset1 w3 g5 2 _).block g6 (Array.getElem?_eq_some_iff.1 HX6.out).1 (by have := HGS.out; omega)).trans HX6.out)
    have HX5 := hid (show w4.heap[g5]? = some (.cells #[.int .u8 (r.cl : Int), .int .u32 (r.s : Int), .int .i64 6, .int .u32 (r.j : Int), .int .u8 (r.st : Int), .int .i64 r.c] 37 (0, 0)) by rw [hw4, heap_setCell_arrJ _ _ _ _ _ _ _ HX5.out]; simp)
    have HB4 := hid (show Below w.heap.size w w4 by rw [hw4]; exact HB3.out.setCell (p := ⟨g5, 2, none⟩) HGS.out.1 _)
    rw [← hw4]
    clear hw4 s2 zs2
    have p0 : w4.cell? ⟨g5, 0, none⟩ = some (.int .u8 (r.cl : Int)) := (cell_of_row _ _ _ _ _ _ HX5.out).trans rfl
    have p1 : w4.cell? ⟨g5, 1, none⟩ = some (.int .u32 (r.s : Int)) := (cell_of_row _ _ _ _ _ _ HX5.out).trans rfl
    have p2 : w4.cell? ⟨g5, 2, none⟩ = some (.int .i64 6) := (cell_of_row _ _ _ _ _ _ HX5.out).trans rfl
    have p3 : w4.cell? ⟨g5, 3, none⟩ = some (.int .u32 (r.j : Int)) := (cell_of_row _ _ _ _ _ _ HX5.out).trans rfl
    have p4 : w4.cell? ⟨g5, 4, none⟩ = some (.int .u8 (r.st : Int)) := (cell_of_row _ _ _ _ _ _ HX5.out).trans rfl
    have p5 : w4.cell? ⟨g5, 5, none⟩ = some (.int .i64 r.c) := (cell_of_row _ _ _ _ _ _ HX5.out).trans rfl
    have r0 : w4.cell? ⟨g6, 0, none⟩ = some (.int .u8 0) := (cell_of_row _ _ _ _ _ _ HX6.out).trans rfl
    have zr0 : w4.frozen? ⟨g6, 0, none⟩ = false := frozen_of_row _ _ _ _ _ HX6.out
    have r1 : w4.cell? ⟨g6, 1, none⟩ = some (.int .u32 0) := (cell_of_row _ _ _ _ _ _ HX6.out).trans rfl
    have zr1 : w4.frozen? ⟨g6, 1, none⟩ = false := frozen_of_row _ _ _ _ _ HX6.out
    have r2 : w4.cell? ⟨g6, 2, none⟩ = some (.int .i64 0) := (cell_of_row _ _ _ _ _ _ HX6.out).trans rfl
    have zr2 : w4.frozen? ⟨g6, 2, none⟩ = false := frozen_of_row _ _ _ _ _ HX6.out
    have r3 : w4.cell? ⟨g6, 3, none⟩ = some (.int .u32 0) := (cell_of_row _ _ _ _ _ _ HX6.out).trans rfl
    have zr3 : w4.frozen? ⟨g6, 3, none⟩ = false := frozen_of_row _ _ _ _ _ HX6.out
    have r4 : w4.cell? ⟨g6, 4, none⟩ = some (.int .u8 0) := (cell_of_row _ _ _ _ _ _ HX6.out).trans rfl
    have zr4 : w4.frozen? ⟨g6, 4, none⟩ = false := frozen_of_row _ _ _ _ _ HX6.out
    have r5 : w4.cell? ⟨g6, 5, none⟩ = some (.int .i64 0) := (cell_of_row _ _ _ _ _ _ HX6.out).trans rfl
    have zr5 : w4.frozen? ⟨g6, 5, none⟩ = false := frozen_of_row _ _ _ _ _ HX6.out
    go_wp2_with fail
    refine bodyPost_ret (results_cell_row (P := Try.prog) rfl _ _ g6 37 _ (0, 0) _ rfl (set6_heap HX6.out) Try.underlying37 rfl (by kernel_rfl)) rfl ?_
    exact ⟨by rw [HTE.out]; rfl, set6_below HB4.out HGS.out.2.1⟩
  · go_upto_region 5 with (fail)
    rw [← HW3.out]
    simp only [← HGG.out]
    have HUN := hid (fun (L : Array Bool) (W : World) (hk : Keeps (fun k => k = g5) w3 W) => show UntilAll [(11, (fun w' => w'.cell? ⟨g7, 0, none⟩ = some (.int .u32 (x0 : Int)) ∧ w'.cell? ⟨g7, 4, none⟩ = some (.int .u8 (x4 : Int)) ∧ w'.cell? ⟨g7, 5, none⟩ = some (.int .i64 x5)))] L W from fun c hc _ => by
      rw [List.mem_singleton] at hc
      subst hc
      have h7 := (hk.block g7 (Array.getElem?_eq_some_iff.1 HX7.out).1 (by have := HGS.out; have := HG7.out; omega)).trans HX7.out
      exact ⟨(cell_of_row _ _ _ _ _ _ h7).trans rfl, (cell_of_row _ _ _ _ _ _ h7).trans rfl, (cell_of_row _ _ _ _ _ _ h7).trans rfl⟩)
    have HK0 := hid (show Keeps (fun k => k = g5) w3 w3.drew from (Keeps.refl _ _).drew)
    have HQ0 := hid (show w3.drew.heap[g5]? = some (.cells #[.int .u8 (r.cl : Int), .int .u32 (r.s : Int), .int .i64 r.e, .int .u32 (r.j : Int), .int .u8 (r.st : Int), .int .i64 r.c] 37 (0, 0)) from HX5.out)
    obtain ⟨W0, hW0⟩ : ∃ z, z = w3.drew := ⟨_, rfl⟩
    refine Orders.begins (C := [(11, (fun w' => w'.cell? ⟨g7, 0, none⟩ = some (.int .u32 (x0 : Int)) ∧ w'.cell? ⟨g7, 4, none⟩ = some (.int .u8 (x4 : Int)) ∧ w'.cell? ⟨g7, 5, none⟩ = some (.int .i64 x5)))]) (by kernel_rfl) ?_
    rw [← hW0] at HK0 HQ0 ⊢
    clear hW0
    refine Orders.take (fun _ => True) [] (i := 0) (v := ?_) rfl (by kernel_rfl) (by kernel_rfl) (by kernel_rfl) (fun _ _ _ h => h) (by kernel_rfl) (fun _ _ _ _ => trivial) (by kernel_rfl) (by kernel_rfl) (Or.inl ⟨by rfl, ?_⟩) (HUN.out _ _ HK0.out) (fun HU => ?_)
    rotate_left
    · intro u hSw
      try dsimp only at hSw
      skip
      go_simp
      try (with_reducible rfl)
    clear HU
    try simp only [Act.put, List.getElem_toArray, List.getElem_cons_succ, List.getElem_cons_zero, List.setIfInBounds_toArray, List.set_cons_zero, List.set_cons_succ]
    refine Orders.take (fun w' => w'.cell? ⟨g7, 0, none⟩ = some (.int .u32 (x0 : Int)) ∧ w'.cell? ⟨g7, 4, none⟩ = some (.int .u8 (x4 : Int)) ∧ w'.cell? ⟨g7, 5, none⟩ = some (.int .i64 x5)) [11] (i := 1) (v := ?_) rfl (by kernel_rfl) (by kernel_rfl) (by kernel_rfl) (fun _ _ _ h => h) (by kernel_rfl) (fun L u hd h => h (11, (fun w' => w'.cell? ⟨g7, 0, none⟩ = some (.int .u32 (x0 : Int)) ∧ w'.cell? ⟨g7, 4, none⟩ = some (.int .u8 (x4 : Int)) ∧ w'.cell? ⟨g7, 5, none⟩ = some (.int .i64 x5))) (by simp) (hd 11 (by simp))) (by kernel_rfl) (by kernel_rfl) (Or.inl ⟨by rfl, ?_⟩) (HUN.out _ _ HK0.out) (fun HU => ?_)
    rotate_left
    · intro u hSw
      try dsimp only at hSw
      obtain ⟨a0, a4, a5⟩ := hSw
      skip
      go_simp
      try (with_reducible rfl)
    clear HU
    try simp only [Act.put, List.getElem_toArray, List.getElem_cons_succ, List.getElem_cons_zero, List.setIfInBounds_toArray, List.set_cons_zero, List.set_cons_succ]
    refine Orders.take (fun _ => True) [] (i := 2) (v := ?_) rfl (by kernel_rfl) (by kernel_rfl) (by kernel_rfl) (fun _ _ _ h => h) (by kernel_rfl) (fun _ _ _ _ => trivial) (by kernel_rfl) (by kernel_rfl) (Or.inl ⟨by rfl, ?_⟩) (HUN.out _ _ HK0.out) (fun HU => ?_)
    rotate_left
    · intro u hSw
      try dsimp only at hSw
      skip
      go_simp
      try (with_reducible rfl)
    clear HU
    try simp only [Act.put, List.getElem_toArray, List.getElem_cons_succ, List.getElem_cons_zero, List.setIfInBounds_toArray, List.set_cons_zero, List.set_cons_succ]
    refine Orders.take (fun w' => w'.cell? ⟨g7, 0, none⟩ = some (.int .u32 (x0 : Int)) ∧ w'.cell? ⟨g7, 4, none⟩ = some (.int .u8 (x4 : Int)) ∧ w'.cell? ⟨g7, 5, none⟩ = some (.int .i64 x5)) [11] (i := 3) (v := ?_) rfl (by kernel_rfl) (by kernel_rfl) (by kernel_rfl) (fun _ _ _ h => h) (by kernel_rfl) (fun L u hd h => h (11, (fun w' => w'.cell? ⟨g7, 0, none⟩ = some (.int .u32 (x0 : Int)) ∧ w'.cell? ⟨g7, 4, none⟩ = some (.int .u8 (x4 : Int)) ∧ w'.cell? ⟨g7, 5, none⟩ = some (.int .i64 x5))) (by simp) (hd 11 (by simp))) (by kernel_rfl) (by kernel_rfl) (Or.inl ⟨by rfl, ?_⟩) (HUN.out _ _ HK0.out) (fun HU => ?_)
    rotate_left
    · intro u hSw
      try dsimp only at hSw
      obtain ⟨a0, a4, a5⟩ := hSw
      skip
      go_simp
      try (with_reducible rfl)
    clear HU
    try simp only [Act.put, List.getElem_toArray, List.getElem_cons_succ, List.getElem_cons_zero, List.setIfInBounds_toArray, List.set_cons_zero, List.set_cons_succ]
    refine Orders.take (fun _ => True) [] (i := 4) (v := ?_) rfl (by kernel_rfl) (by kernel_rfl) (by kernel_rfl) (fun _ _ _ h => h) (by kernel_rfl) (fun _ _ _ _ => trivial) (by kernel_rfl) (by kernel_rfl) (Or.inl ⟨by rfl, ?_⟩) (HUN.out _ _ HK0.out) (fun HU => ?_)
    rotate_left
    · intro u hSw
      try dsimp only at hSw
      skip
      go_simp
      try (with_reducible rfl)
    clear HU
    try simp only [Act.put, List.getElem_toArray, List.getElem_cons_succ, List.getElem_cons_zero, List.setIfInBounds_toArray, List.set_cons_zero, List.set_cons_succ]
    refine Orders.take (fun w' => w'.cell? ⟨g7, 0, none⟩ = some (.int .u32 (x0 : Int)) ∧ w'.cell? ⟨g7, 4, none⟩ = some (.int .u8 (x4 : Int)) ∧ w'.cell? ⟨g7, 5, none⟩ = some (.int .i64 x5)) [11] (i := 5) (v := ?_) rfl (by kernel_rfl) (by kernel_rfl) (by kernel_rfl) (fun _ _ _ h => h) (by kernel_rfl) (fun L u hd h => h (11, (fun w' => w'.cell? ⟨g7, 0, none⟩ = some (.int .u32 (x0 : Int)) ∧ w'.cell? ⟨g7, 4, none⟩ = some (.int .u8 (x4 : Int)) ∧ w'.cell? ⟨g7, 5, none⟩ = some (.int .i64 x5))) (by simp) (hd 11 (by simp))) (by kernel_rfl) (by kernel_rfl) (Or.inl ⟨by rfl, ?_⟩) (HUN.out _ _ HK0.out) (fun HU => ?_)
    rotate_left
    · intro u hSw
      try dsimp only at hSw
      obtain ⟨a0, a4, a5⟩ := hSw
      skip
      go_simp
      try (with_reducible rfl)
    clear HU
    try simp only [Act.put, List.getElem_toArray, List.getElem_cons_succ, List.getElem_cons_zero, List.setIfInBounds_toArray, List.set_cons_zero, List.set_cons_succ]
    refine Orders.take (fun _ => True) [] (i := 6) (v := ?_) rfl (by kernel_rfl) (by kernel_rfl) (by kernel_rfl) (fun _ _ _ h => h) (by kernel_rfl) (fun _ _ _ _ => trivial) (by kernel_rfl) (by kernel_rfl) (Or.inl ⟨by rfl, ?_⟩) (HUN.out _ _ HK0.out) (fun HU => ?_)
    rotate_left
    · intro u hSw
      try dsimp only at hSw
      skip
      go_simp
      try (with_reducible rfl)
    clear HU
    try simp only [Act.put, List.getElem_toArray, List.getElem_cons_succ, List.getElem_cons_zero, List.setIfInBounds_toArray, List.set_cons_zero, List.set_cons_succ]
    have n0 : W0.cell? ⟨g5, 3, none⟩ = some (.int .u32 (r.j : Int)) := (cell_of_row _ _ _ _ _ _ HQ0.out).trans rfl
    have zn0 : W0.frozen? ⟨g5, 3, none⟩ = false := frozen_of_row _ _ _ _ _ HQ0.out
    refine Orders.one (i := 7) (by kernel_rfl) rfl (fun K hK => ?_)
    try simp only [Act.put, List.getElem_toArray, List.getElem_cons_succ, List.getElem_cons_zero, List.setIfInBounds_toArray, List.set_cons_zero, List.set_cons_succ]
    go_simp
    obtain ⟨W1, hW⟩ : ∃ z, z = W0.setCell ⟨g5, 3, none⟩ (.int .u32 (x0 : Int)) := ⟨_, rfl⟩
    have HK1 := hid (show Keeps (fun k => k = g5) w3 W1 by rw [hW]; exact HK0.out.trans (kset1 W0 g5 3 _))
    have HQ1 := hid (show W1.heap[g5]? = some (.cells #[.int .u8 (r.cl : Int), .int .u32 (r.s : Int), .int .i64 r.e, .int .u32 (x0 : Int), .int .u8 (r.st : Int), .int .i64 r.c] 37 (0, 0)) by rw [hW, heap_setCell_arrJ _ _ _ _ _ _ _ HQ0.out]; simp)
    rw [← hW]
    clear hW n0 zn0
    refine hK.out _ _ (HUN.out _ _ HK1.out) (fun HU => ?_)
    clear hK K HU
    try simp only [Act.put, List.getElem_toArray, List.getElem_cons_succ, List.getElem_cons_zero, List.setIfInBounds_toArray, List.set_cons_zero, List.set_cons_succ]
    refine Orders.take (fun _ => True) [] (i := 8) (v := ?_) rfl (by kernel_rfl) (by kernel_rfl) (by kernel_rfl) (fun _ _ _ h => h) (by kernel_rfl) (fun _ _ _ _ => trivial) (by kernel_rfl) (by kernel_rfl) (Or.inl ⟨by rfl, ?_⟩) (HUN.out _ _ HK1.out) (fun HU => ?_)
    rotate_left
    · intro u hSw
      try dsimp only at hSw
      skip
      go_simp
      try (with_reducible rfl)
    clear HU
    try simp only [Act.put, List.getElem_toArray, List.getElem_cons_succ, List.getElem_cons_zero, List.setIfInBounds_toArray, List.set_cons_zero, List.set_cons_succ]
    have n1 : W1.cell? ⟨g5, 4, none⟩ = some (.int .u8 (r.st : Int)) := (cell_of_row _ _ _ _ _ _ HQ1.out).trans rfl
    have zn1 : W1.frozen? ⟨g5, 4, none⟩ = false := frozen_of_row _ _ _ _ _ HQ1.out
    refine Orders.one (i := 9) (by kernel_rfl) rfl (fun K hK => ?_)
    try simp only [Act.put, List.getElem_toArray, List.getElem_cons_succ, List.getElem_cons_zero, List.setIfInBounds_toArray, List.set_cons_zero, List.set_cons_succ]
    go_simp
    obtain ⟨W2, hW⟩ : ∃ z, z = W1.setCell ⟨g5, 4, none⟩ (.int .u8 (x4 : Int)) := ⟨_, rfl⟩
    have HK2 := hid (show Keeps (fun k => k = g5) w3 W2 by rw [hW]; exact HK1.out.trans (kset1 W1 g5 4 _))
    have HQ2 := hid (show W2.heap[g5]? = some (.cells #[.int .u8 (r.cl : Int), .int .u32 (r.s : Int), .int .i64 r.e, .int .u32 (x0 : Int), .int .u8 (x4 : Int), .int .i64 r.c] 37 (0, 0)) by rw [hW, heap_setCell_arrJ _ _ _ _ _ _ _ HQ1.out]; simp)
    rw [← hW]
    clear hW n1 zn1
    refine hK.out _ _ (HUN.out _ _ HK2.out) (fun HU => ?_)
    clear hK K HU
    try simp only [Act.put, List.getElem_toArray, List.getElem_cons_succ, List.getElem_cons_zero, List.setIfInBounds_toArray, List.set_cons_zero, List.set_cons_succ]
    refine Orders.take (fun _ => True) [] (i := 10) (v := ?_) rfl (by kernel_rfl) (by kernel_rfl) (by kernel_rfl) (fun _ _ _ h => h) (by kernel_rfl) (fun _ _ _ _ => trivial) (by kernel_rfl) (by kernel_rfl) (Or.inl ⟨by rfl, ?_⟩) (HUN.out _ _ HK2.out) (fun HU => ?_)
    rotate_left
    · intro u hSw
      try dsimp only at hSw
      skip
      go_simp
      try (with_reducible rfl)
    clear HU
    try simp only [Act.put, List.getElem_toArray, List.getElem_cons_succ, List.getElem_cons_zero, List.setIfInBounds_toArray, List.set_cons_zero, List.set_cons_succ]
    have n2 : W2.cell? ⟨g5, 5, none⟩ = some (.int .i64 r.c) := (cell_of_row _ _ _ _ _ _ HQ2.out).trans rfl
    have zn2 : W2.frozen? ⟨g5, 5, none⟩ = false := frozen_of_row _ _ _ _ _ HQ2.out
    refine Orders.one (i := 11) (by kernel_rfl) rfl (fun K hK => ?_)
    try simp only [Act.put, List.getElem_toArray, List.getElem_cons_succ, List.getElem_cons_zero, List.setIfInBounds_toArray, List.set_cons_zero, List.set_cons_succ]
    go_simp
    obtain ⟨W3, hW⟩ : ∃ z, z = W2.setCell ⟨g5, 5, none⟩ (.int .i64 x5) := ⟨_, rfl⟩
    have HK3 := hid (show Keeps (fun k => k = g5) w3 W3 by rw [hW]; exact HK2.out.trans (kset1 W2 g5 5 _))
    have HQ3 := hid (show W3.heap[g5]? = some (.cells #[.int .u8 (r.cl : Int), .int .u32 (r.s : Int), .int .i64 r.e, .int .u32 (x0 : Int), .int .u8 (x4 : Int), .int .i64 x5] 37 (0, 0)) by rw [hW, heap_setCell_arrJ _ _ _ _ _ _ _ HQ2.out]; simp)
    rw [← hW]
    clear hW n2 zn2
    refine hK.out _ _ ?_ (fun HU => ?_)
    · intro c hc hl
      rw [List.mem_singleton] at hc
      subst hc
      exact absurd hl (fun h => Bool.noConfusion (h.symm.trans (by kernel_rfl : _ = true)))
    clear hK K HU
    try simp only [Act.put, List.getElem_toArray, List.getElem_cons_succ, List.getElem_cons_zero, List.setIfInBounds_toArray, List.set_cons_zero, List.set_cons_succ]
    refine Orders.ends (by kernel_rfl) ?_ _
    have HX6 := hid ((HK3.out.block g6 (Array.getElem?_eq_some_iff.1 HX6.out).1 (by have := HGS.out; omega)).trans HX6.out)
    have HX5 := hid HQ3.out
    have HB4 := hid (HB3.out.trans (show Below w.heap.size w3 W3 from ⟨HK3.out.os, HK3.out.tape, HK3.out.output, HK3.out.size, fun k hk => HK3.out.block k (by have := HB3.out.size; omega) (by have := HGS.out; omega)⟩))
    have p0 : W3.cell? ⟨g5, 0, none⟩ = some (.int .u8 (r.cl : Int)) := (cell_of_row _ _ _ _ _ _ HX5.out).trans rfl
    have p1 : W3.cell? ⟨g5, 1, none⟩ = some (.int .u32 (r.s : Int)) := (cell_of_row _ _ _ _ _ _ HX5.out).trans rfl
    have p2 : W3.cell? ⟨g5, 2, none⟩ = some (.int .i64 r.e) := (cell_of_row _ _ _ _ _ _ HX5.out).trans rfl
    have p3 : W3.cell? ⟨g5, 3, none⟩ = some (.int .u32 (x0 : Int)) := (cell_of_row _ _ _ _ _ _ HX5.out).trans rfl
    have p4 : W3.cell? ⟨g5, 4, none⟩ = some (.int .u8 (x4 : Int)) := (cell_of_row _ _ _ _ _ _ HX5.out).trans rfl
    have p5 : W3.cell? ⟨g5, 5, none⟩ = some (.int .i64 x5) := (cell_of_row _ _ _ _ _ _ HX5.out).trans rfl
    have r0 : W3.cell? ⟨g6, 0, none⟩ = some (.int .u8 0) := (cell_of_row _ _ _ _ _ _ HX6.out).trans rfl
    have zr0 : W3.frozen? ⟨g6, 0, none⟩ = false := frozen_of_row _ _ _ _ _ HX6.out
    have r1 : W3.cell? ⟨g6, 1, none⟩ = some (.int .u32 0) := (cell_of_row _ _ _ _ _ _ HX6.out).trans rfl
    have zr1 : W3.frozen? ⟨g6, 1, none⟩ = false := frozen_of_row _ _ _ _ _ HX6.out
    have r2 : W3.cell? ⟨g6, 2, none⟩ = some (.int .i64 0) := (cell_of_row _ _ _ _ _ _ HX6.out).trans rfl
    have zr2 : W3.frozen? ⟨g6, 2, none⟩ = false := frozen_of_row _ _ _ _ _ HX6.out
    have r3 : W3.cell? ⟨g6, 3, none⟩ = some (.int .u32 0) := (cell_of_row _ _ _ _ _ _ HX6.out).trans rfl
    have zr3 : W3.frozen? ⟨g6, 3, none⟩ = false := frozen_of_row _ _ _ _ _ HX6.out
    have r4 : W3.cell? ⟨g6, 4, none⟩ = some (.int .u8 0) := (cell_of_row _ _ _ _ _ _ HX6.out).trans rfl
    have zr4 : W3.frozen? ⟨g6, 4, none⟩ = false := frozen_of_row _ _ _ _ _ HX6.out
    have r5 : W3.cell? ⟨g6, 5, none⟩ = some (.int .i64 0) := (cell_of_row _ _ _ _ _ _ HX6.out).trans rfl
    have zr5 : W3.frozen? ⟨g6, 5, none⟩ = false := frozen_of_row _ _ _ _ _ HX6.out
    go_wp2_with fail
    refine bodyPost_ret (results_cell_row (P := Try.prog) rfl _ _ g6 37 _ (0, 0) _ rfl (set6_heap HX6.out) Try.underlying37 rfl (by kernel_rfl)) rfl ?_
    exact ⟨by rw [HTE.out]; rfl, set6_below HB4.out HGS.out.2.1⟩

end Go.Proofs.Ytahiaifdfgkemaa
