/-
  Do, of a Query; of any request.
-/
import Derived.Test.YtahiaifdfgkemaaJbH
namespace Go.Proofs.Ytahiaifdfgkemaa
open Go.RowKit
set_option linter.unusedVariables false
set_option linter.unusedSimpArgs false

def Tb.doQuery (t : Tb) (q : Note.Q) : Note.R := if q.right = true then t.tell q.j ⟨q.cl, q.s, 0, 0, 0, 0⟩ else ⟨q.cl, q.s, 4, 0, 0, 0⟩

set_option maxRecDepth 100000 in
set_option maxHeartbeats 8000000 in
theorem doquery_any (w : World) (lo b : Nat) (va vo : Value) (t : Tb) (q : Note.Q) (h : TbAt w lo b va vo t) (hq : q.wf) (hk3 : q.k = 3) :
    Calls Try.prog 9 #[.pointer (some ⟨b, 0, none⟩), .agg #[.int .u8 (q.cl : Int), .int .u32 (q.s : Int), .int .u8 (q.k : Int), .int .u8 (q.t : Int), .int .i64 q.kk, .int .i64 q.w, .int .u32 (q.j : Int)]] w fun e w' => e = .returned (.tuple #[rv (t.doQuery q), .bool false]) ∧ Below w.heap.size w w' := by
  have H0 := hid h
  have HQW := hid hq
  have dk3 : ((q.k : Int) == 3) = true := by rw [beq_iff_eq]; omega
  obtain ⟨g0, hg0⟩ : ∃ g, g = w.heap.size := ⟨_, rfl⟩
  obtain ⟨g1, hg1⟩ : ∃ g, g = g0 + 1 := ⟨_, rfl⟩
  obtain ⟨g2, hg2⟩ : ∃ g, g = g0 + 1 + 1 := ⟨_, rfl⟩
  obtain ⟨w1, hw1⟩ : ∃ w1, w1 = ((w.alloc (.cells #[.int .u8 (q.cl : Int), .int .u32 (q.s : Int), .int .u8 (q.k : Int), .int .u8 (q.t : Int), .int .i64 q.kk, .int .i64 q.w, .int .u32 (q.j : Int)] 33)).alloc (.cells #[.int .u8 0, .int .u32 0, .int .i64 0, .int .u32 0, .int .u8 0, .int .i64 0] 37)).alloc (.cells #[.int .u8 (q.cl : Int), .int .u32 (q.s : Int), .int .i64 0, .int .u32 0, .int .u8 0, .int .i64 0] 37) := ⟨_, rfl⟩
  have hb1 : Below w.heap.size w w1 := by rw [hw1]; exact ((((Below.refl _ w).alloc (Nat.le_refl _) _).alloc (by simp) _).alloc (by simp; omega) _)
  have hs1 : w1.heap.size = w.heap.size + 3 := by rw [hw1]; simp
  have x2 : w1.heap[g2]? = some (.cells #[.int .u8 (q.cl : Int), .int .u32 (q.s : Int), .int .i64 0, .int .u32 0, .int .u8 0, .int .i64 0] 37 (0, 0)) := by rw [hw1, hg2, hg0]; exact (by have := heap_alloc_new ((w.alloc (.cells #[.int .u8 (q.cl : Int), .int .u32 (q.s : Int), .int .u8 (q.k : Int), .int .u8 (q.t : Int), .int .i64 q.kk, .int .i64 q.w, .int .u32 (q.j : Int)] 33)).alloc (.cells #[.int .u8 0, .int .u32 0, .int .i64 0, .int .u32 0, .int .u8 0, .int .i64 0] 37)) (.cells #[.int .u8 (q.cl : Int), .int .u32 (q.s : Int), .int .i64 0, .int .u32 0, .int .u8 0, .int .i64 0] 37); simpa using this)
  have x1 : w1.heap[g1]? = some (.cells #[.int .u8 0, .int .u32 0, .int .i64 0, .int .u32 0, .int .u8 0, .int .i64 0] 37 (0, 0)) := by
    rw [hw1, hg1, hg0]
    refine (((Below.refl _ ((w.alloc (.cells #[.int .u8 (q.cl : Int), .int .u32 (q.s : Int), .int .u8 (q.k : Int), .int .u8 (q.t : Int), .int .i64 q.kk, .int .i64 q.w, .int .u32 (q.j : Int)] 33)).alloc (.cells #[.int .u8 0, .int .u32 0, .int .i64 0, .int .u32 0, .int .u8 0, .int .i64 0] 37))).alloc (Nat.le_refl _) _).block _ (by simp)).trans ?_
    have := heap_alloc_new (w.alloc (.cells #[.int .u8 (q.cl : Int), .int .u32 (q.s : Int), .int .u8 (q.k : Int), .int .u8 (q.t : Int), .int .i64 q.kk, .int .i64 q.w, .int .u32 (q.j : Int)] 33)) (.cells #[.int .u8 0, .int .u32 0, .int .i64 0, .int .u32 0, .int .u8 0, .int .i64 0] 37)
    simpa using this
  have x0 : w1.heap[g0]? = some (.cells #[.int .u8 (q.cl : Int), .int .u32 (q.s : Int), .int .u8 (q.k : Int), .int .u8 (q.t : Int), .int .i64 q.kk, .int .i64 q.w, .int .u32 (q.j : Int)] 33 (0, 0)) := by
    rw [hw1, hg0]
    refine ((((Below.refl _ (w.alloc (.cells #[.int .u8 (q.cl : Int), .int .u32 (q.s : Int), .int .u8 (q.k : Int), .int .u8 (q.t : Int), .int .i64 q.kk, .int .i64 q.w, .int .u32 (q.j : Int)] 33))).alloc (Nat.le_refl _) _).alloc (by simp) _).block _ (by simp)).trans ?_
    exact heap_alloc_new w _
  have HX0 := hid x0
  have HX1 := hid x1
  have HX2 := hid x2
  have HB1 := hid hb1
  have HGS := hid (show w.heap.size ≤ g0 ∧ w.heap.size ≤ g1 ∧ w.heap.size ≤ g2 ∧ g0 < g1 ∧ g1 < g2 ∧ g2 < w1.heap.size by omega)
  have HNT := hid (show ∀ g, w.heap.size ≤ g → ¬ Tk b va vo g from fun g hg e => by have := (h.tk_lt e).2; omega)
  have HG := hid (And.intro hg0 (And.intro hg1 hg2))
  have HRI := hid (right_any w1 b q hq)
  have HW1 := hid hw1
  clear h hq hb1 hs1 x0 x1 x2 hk3 hg0 hg1 hg2 hw1
  go_enter Try.func9, Try.ntmps9
  go_wp2_with fail
  rw [← HW1.out]
  simp only [← HG.out.1]
  try rw [← HG.out.2.2]
  try rw [← HG.out.2.1]
  try simp only [← HG.out.2.2, ← HG.out.2.1]
  refine HRI.out.mono ?_
  rintro e w2 ⟨rfl, hb2⟩
  have HB2 := hid (HB1.out.trans (hb2.mono HB1.out.size))
  have HT2 := hid ((H0.out.below HB1.out).below hb2)
  have HR1 := hid ((hb2.block g1 (by have := HGS.out; omega)).trans HX1.out)
  have HR0 := hid ((hb2.block g0 (by have := HGS.out; omega)).trans HX0.out)
  have HR2 := hid ((hb2.block g2 (by have := HGS.out; omega)).trans HX2.out)
  have HS12 := hid hb2.size
  clear hb2
  rcases hr : q.right with _ | _
  · have HE := hid (show t.doQuery q = ⟨q.cl, q.s, 4, 0, 0, 0⟩ by unfold Tb.doQuery; rw [if_neg (by rw [hr]; simp)])
    rw [if_neg (by simp)]
    clear hr
    obtain ⟨w3, hw3⟩ : ∃ z, z = w2.setCell ⟨g2, 2, none⟩ (.int .i64 4) := ⟨_, rfl⟩
    have hk3 : Keeps (fun k => k = g2) w2 w3 := by rw [hw3]; exact kset1 w2 g2 2 _
    have HC2 := hid (show w3.heap[g2]? = some (.cells #[.int .u8 (q.cl : Int), .int .u32 (q.s : Int), .int .i64 4, .int .u32 0, .int .u8 0, .int .i64 0] 37 (0, 0)) by rw [hw3, heap_setCell_arrJ _ _ _ _ _ _ _ HR2.out]; simp)
    have HR1 := hid ((hk3.block g1 (Array.getElem?_eq_some_iff.1 HR1.out).1 (by have := HGS.out; omega)).trans HR1.out)
    have HR0 := hid ((hk3.block g0 (Array.getElem?_eq_some_iff.1 HR0.out).1 (by have := HGS.out; omega)).trans HR0.out)
    have HB3 := hid (show Below w.heap.size w w3 by rw [hw3]; exact HB2.out.setCell (p := ⟨g2, 2, none⟩) HGS.out.2.2.1 _)
    have HT3 := hid (HT2.out.keeps hk3 (fun k hk e => HNT.out g2 HGS.out.2.2.1 (e ▸ hk)))
    have s2 : w2.cell? ⟨g2, 2, none⟩ = some (.int .i64 0) := (cell_of_row _ _ _ _ _ _ HR2.out).trans rfl
    have y2 : w2.frozen? ⟨g2, 2, none⟩ = false := frozen_of_row _ _ _ _ _ HR2.out
    have HW3 := hid hw3
    clear hw3 hk3
    go_upto_region 3 with (fail)
    rw [← HW3.out]
    clear s2 y2
    have p0 : w3.cell? ⟨g2, 0, none⟩ = some (.int .u8 (q.cl : Int)) := (cell_of_row _ _ _ _ _ _ HC2.out).trans rfl
    have p1 : w3.cell? ⟨g2, 1, none⟩ = some (.int .u32 (q.s : Int)) := (cell_of_row _ _ _ _ _ _ HC2.out).trans rfl
    have p2 : w3.cell? ⟨g2, 2, none⟩ = some (.int .i64 4) := (cell_of_row _ _ _ _ _ _ HC2.out).trans rfl
    have p3 : w3.cell? ⟨g2, 3, none⟩ = some (.int .u32 0) := (cell_of_row _ _ _ _ _ _ HC2.out).trans rfl
    have p4 : w3.cell? ⟨g2, 4, none⟩ = some (.int .u8 0) := (cell_of_row _ _ _ _ _ _ HC2.out).trans rfl
    have p5 : w3.cell? ⟨g2, 5, none⟩ = some (.int .i64 0) := (cell_of_row _ _ _ _ _ _ HC2.out).trans rfl
    have r0 : w3.cell? ⟨g1, 0, none⟩ = some (.int .u8 0) := (cell_of_row _ _ _ _ _ _ HR1.out).trans rfl
    have zr0 : w3.frozen? ⟨g1, 0, none⟩ = false := frozen_of_row _ _ _ _ _ HR1.out
    have r1 : w3.cell? ⟨g1, 1, none⟩ = some (.int .u32 0) := (cell_of_row _ _ _ _ _ _ HR1.out).trans rfl
    have zr1 : w3.frozen? ⟨g1, 1, none⟩ = false := frozen_of_row _ _ _ _ _ HR1.out
    have r2 : w3.cell? ⟨g1, 2, none⟩ = some (.int .i64 0) := (cell_of_row _ _ _ _ _ _ HR1.out).trans rfl
    have zr2 : w3.frozen? ⟨g1, 2, none⟩ = false := frozen_of_row _ _ _ _ _ HR1.out
    have r3 : w3.cell? ⟨g1, 3, none⟩ = some (.int .u32 0) := (cell_of_row _ _ _ _ _ _ HR1.out).trans rfl
    have zr3 : w3.frozen? ⟨g1, 3, none⟩ = false := frozen_of_row _ _ _ _ _ HR1.out
    have r4 : w3.cell? ⟨g1, 4, none⟩ = some (.int .u8 0) := (cell_of_row _ _ _ _ _ _ HR1.out).trans rfl
    have zr4 : w3.frozen? ⟨g1, 4, none⟩ = false := frozen_of_row _ _ _ _ _ HR1.out
    have r5 : w3.cell? ⟨g1, 5, none⟩ = some (.int .i64 0) := (cell_of_row _ _ _ _ _ _ HR1.out).trans rfl
    have zr5 : w3.frozen? ⟨g1, 5, none⟩ = false := frozen_of_row _ _ _ _ _ HR1.out
    go_wp2_with fail
    refine bodyPost_ret (results_cellJ rfl _ _ _ g1 37 _ (0, 0) _ rfl rfl (set6_heap HR1.out) Try.underlying37 (by kernel_rfl)) rfl ?_
    exact ⟨by rw [HE.out]; rfl, set6_below HB3.out HGS.out.2.1⟩
  · have HE := hid (show t.doQuery q = t.tell q.j ⟨q.cl, q.s, 0, 0, 0, 0⟩ by unfold Tb.doQuery; rw [if_pos hr])
    rw [if_pos rfl]
    clear hr
    obtain ⟨w3, hw3⟩ : ∃ z, z = w2.setCell ⟨g2, 2, none⟩ (.int .i64 0) := ⟨_, rfl⟩
    have hk3 : Keeps (fun k => k = g2) w2 w3 := by rw [hw3]; exact kset1 w2 g2 2 _
    have HC2 := hid (show w3.heap[g2]? = some (.cells #[.int .u8 (q.cl : Int), .int .u32 (q.s : Int), .int .i64 0, .int .u32 0, .int .u8 0, .int .i64 0] 37 (0, 0)) by rw [hw3, heap_setCell_arrJ _ _ _ _ _ _ _ HR2.out]; simp)
    have HR1 := hid ((hk3.block g1 (Array.getElem?_eq_some_iff.1 HR1.out).1 (by have := HGS.out; omega)).trans HR1.out)
    have HR0 := hid ((hk3.block g0 (Array.getElem?_eq_some_iff.1 HR0.out).1 (by have := HGS.out; omega)).trans HR0.out)
    have HB3 := hid (show Below w.heap.size w w3 by rw [hw3]; exact HB2.out.setCell (p := ⟨g2, 2, none⟩) HGS.out.2.2.1 _)
    have HT3 := hid (HT2.out.keeps hk3 (fun k hk e => HNT.out g2 HGS.out.2.2.1 (e ▸ hk)))
    have s2 : w2.cell? ⟨g2, 2, none⟩ = some (.int .i64 0) := (cell_of_row _ _ _ _ _ _ HR2.out).trans rfl
    have y2 : w2.frozen? ⟨g2, 2, none⟩ = false := frozen_of_row _ _ _ _ _ HR2.out
    have HW3 := hid hw3
    clear hw3 hk3
    go_upto_region 3 with (fail)
    rw [← HW3.out]
    clear s2 y2
    have p0 : w3.cell? ⟨g2, 0, none⟩ = some (.int .u8 (q.cl : Int)) := (cell_of_row _ _ _ _ _ _ HC2.out).trans rfl
    have p1 : w3.cell? ⟨g2, 1, none⟩ = some (.int .u32 (q.s : Int)) := (cell_of_row _ _ _ _ _ _ HC2.out).trans rfl
    have p2 : w3.cell? ⟨g2, 2, none⟩ = some (.int .i64 0) := (cell_of_row _ _ _ _ _ _ HC2.out).trans rfl
    have p3 : w3.cell? ⟨g2, 3, none⟩ = some (.int .u32 0) := (cell_of_row _ _ _ _ _ _ HC2.out).trans rfl
    have p4 : w3.cell? ⟨g2, 4, none⟩ = some (.int .u8 0) := (cell_of_row _ _ _ _ _ _ HC2.out).trans rfl
    have p5 : w3.cell? ⟨g2, 5, none⟩ = some (.int .i64 0) := (cell_of_row _ _ _ _ _ _ HC2.out).trans rfl
    have k2 : w3.cell? ⟨g0, 2, none⟩ = some (.int .u8 (q.k : Int)) := (cell_of_row _ _ _ _ _ _ HR0.out).trans rfl
    have k6 : w3.cell? ⟨g0, 6, none⟩ = some (.int .u32 (q.j : Int)) := (cell_of_row _ _ _ _ _ _ HR0.out).trans rfl
    have HTL := hid (show Calls Try.prog 20 #[.pointer (some ⟨b, 0, none⟩), .int .u32 (q.j : Int), .agg #[.int .u8 (q.cl : Int), .int .u32 (q.s : Int), .int .i64 0, .int .u32 0, .int .u8 0, .int .i64 0]] w3 fun e w' => e = .returned (rv (t.tell q.j ⟨q.cl, q.s, 0, 0, 0, 0⟩)) ∧ Below w3.heap.size w3 w' from tell_any w3 lo b q.j va vo t ⟨q.cl, q.s, 0, 0, 0, 0⟩ HT3.out)
    obtain ⟨r, hr⟩ : ∃ r, r = t.tell q.j ⟨q.cl, q.s, 0, 0, 0, 0⟩ := ⟨_, rfl⟩
    rw [← hr] at HTL HE
    clear hr
    obtain ⟨y0, y1, y3, y4, y5, y6⟩ := r
    unfold rv rcellA at HTL
    dsimp only at HTL
    go_wp2_with fail
    refine HTL.out.mono ?_
    rintro e w4 ⟨rfl, hb4⟩
    have HR1 := hid ((hb4.block g1 (Array.getElem?_eq_some_iff.1 HR1.out).1).trans HR1.out)
    have HB4 := hid (HB3.out.trans (hb4.mono HB3.out.size))
    clear hb4 p0 p1 p2 p3 p4 p5 k2 k6
    have r0 : w4.cell? ⟨g1, 0, none⟩ = some (.int .u8 0) := (cell_of_row _ _ _ _ _ _ HR1.out).trans rfl
    have zr0 : w4.frozen? ⟨g1, 0, none⟩ = false := frozen_of_row _ _ _ _ _ HR1.out
    have r1 : w4.cell? ⟨g1, 1, none⟩ = some (.int .u32 0) := (cell_of_row _ _ _ _ _ _ HR1.out).trans rfl
    have zr1 : w4.frozen? ⟨g1, 1, none⟩ = false := frozen_of_row _ _ _ _ _ HR1.out
    have r2 : w4.cell? ⟨g1, 2, none⟩ = some (.int .i64 0) := (cell_of_row _ _ _ _ _ _ HR1.out).trans rfl
    have zr2 : w4.frozen? ⟨g1, 2, none⟩ = false := frozen_of_row _ _ _ _ _ HR1.out
    have r3 : w4.cell? ⟨g1, 3, none⟩ = some (.int .u32 0) := (cell_of_row _ _ _ _ _ _ HR1.out).trans rfl
    have zr3 : w4.frozen? ⟨g1, 3, none⟩ = false := frozen_of_row _ _ _ _ _ HR1.out
    have r4 : w4.cell? ⟨g1, 4, none⟩ = some (.int .u8 0) := (cell_of_row _ _ _ _ _ _ HR1.out).trans rfl
    have zr4 : w4.frozen? ⟨g1, 4, none⟩ = false := frozen_of_row _ _ _ _ _ HR1.out
    have r5 : w4.cell? ⟨g1, 5, none⟩ = some (.int .i64 0) := (cell_of_row _ _ _ _ _ _ HR1.out).trans rfl
    have zr5 : w4.frozen? ⟨g1, 5, none⟩ = false := frozen_of_row _ _ _ _ _ HR1.out
    go_wp2_with fail
    refine bodyPost_ret (results_cellJ rfl _ _ _ g1 37 _ (0, 0) _ rfl rfl (set6_heap HR1.out) Try.underlying37 (by kernel_rfl)) rfl ?_
    exact ⟨by rw [HE.out]; rfl, set6_below HB4.out HGS.out.2.1⟩

/-- Do, of any request. -/
def Tb.do (t : Tb) (q : Note.Q) : (Note.R × Bool) × Tb := if q.k = 3 then ((t.doQuery q, false), t) else t.doPlain q
theorem do_any (w : World) (lo b : Nat) (va vo : Value) (t : Tb) (q : Note.Q) (h : TbAt w lo b va vo t) (hv : t.over.length ≤ 64) (hl : t.last < 100000) (hq : q.wf) :
    Calls Try.prog 9 #[.pointer (some ⟨b, 0, none⟩), .agg #[.int .u8 (q.cl : Int), .int .u32 (q.s : Int), .int .u8 (q.k : Int), .int .u8 (q.t : Int), .int .i64 q.kk, .int .i64 q.w, .int .u32 (q.j : Int)]] w fun e w' => e = .returned (.tuple #[rv (t.do q).1.1, .bool (t.do q).1.2]) ∧ ∃ va' vo', Stp w lo b va vo w' va' vo' (t.do q).2 := by
  by_cases hk : q.k = 3
  · rw [show t.do q = ((t.doQuery q, false), t) by unfold Tb.do; rw [if_pos hk]]
    refine (doquery_any w lo b va vo t q h hq hk).mono ?_
    rintro e w' ⟨rfl, hb⟩
    exact ⟨rfl, va, vo, Stp.of_below h hb⟩
  · rw [show t.do q = t.doPlain q by unfold Tb.do; rw [if_neg hk]]
    exact doplain_any w lo b va vo t q h hv hl (by have := h.lt; have := h.lob; omega) hq hk

end Go.Proofs.Ytahiaifdfgkemaa
