/-
  Layer 16: the law's example.
-/
import Derived.Test.YtahiaifdfgkemaaJbG
import Derived.Deep.Cut
namespace Go.Proofs.Ytahiaifdfgkemaa
open Go.RowKit
set_option linter.unusedVariables false
set_option linter.unusedSimpArgs false

theorem Stp.apart {w w' : World} {lo b : Nat} {va vo va' vo' : Value} {t' : Tb} (h : Stp w lo b va vo w' va' vo' t') {g : Nat} (hg : g < w.heap.size) (hn : ¬ Tk b va vo g) : ¬ Tk b va' vo' g := by
  rintro (e | e | e)
  · exact hn (.inl e)
  · rcases h.na g e with e | e
    · exact hn (.inr (.inl e))
    · omega
  · rcases h.no g e with e | e
    · exact hn (.inr (.inr e))
    · omega
/-- A block aside of a table stays. -/
theorem Stp.aside {w w' : World} {lo b : Nat} {va vo va' vo' : Value} {t' : Tb} (h : Stp w lo b va vo w' va' vo' t') {g : Nat} {o : Obj} (hg : w.heap[g]? = some o) (hn : ¬ Tk b va vo g) : w'.heap[g]? = some o := (h.k.block g (Array.getElem?_eq_some_iff.1 hg).1 hn).trans hg
theorem do_at (w : World) (lo b : Nat) (va vo : Value) (t : Tb) (q : Note.Q) (h : TbAt w lo b va vo t) (hv : t.over.length ≤ 64) (hl : t.last < 100000) (hq : q.wf) (hk3 : q.k ≠ 3) {r : Note.R} {ok : Bool} {t' : Tb} (e : t.doPlain q = ((r, ok), t')) :
    Calls Try.prog 9 #[.pointer (some ⟨b, 0, none⟩), .agg #[.int .u8 (q.cl : Int), .int .u32 (q.s : Int), .int .u8 (q.k : Int), .int .u8 (q.t : Int), .int .i64 q.kk, .int .i64 q.w, .int .u32 (q.j : Int)]] w fun e w' => e = .returned (.tuple #[rv r, .bool ok]) ∧ ∃ va' vo', Stp w lo b va vo w' va' vo' t' := by
  have h1 := doplain_any w lo b va vo t q h hv hl (by have := h.lt; have := h.lob; omega) hq hk3
  rw [e] at h1
  exact h1

def subQ (s : Nat) : Note.Q := ⟨0, s, 1, 1, 2, 5, 0⟩
set_option maxRecDepth 100000 in
set_option maxHeartbeats 1000000 in
theorem lawsubmit_any (s : Nat) (w : World) :
    Calls Try.prog 18 #[.int .u32 (s : Int)] w fun e w' => e = .returned (.agg #[.int .u8 0, .int .u32 (s : Int), .int .u8 1, .int .u8 1, .int .i64 2, .int .i64 5, .int .u32 0]) ∧ Below w.heap.size w w' := by
  go_enter Try.func18, Try.ntmps18
  go_wp2_with fail
  refine bodyPost_ret (results_cell_row (P := Try.prog) rfl _ _ w.heap.size 33 _ (0, 0) _ rfl (heap_alloc_new w _) Try.underlying33 rfl (by kernel_rfl)) rfl ?_
  exact ⟨rfl, (Below.refl _ _).alloc (Nat.le_refl _) _⟩

def awT : Tb := { newTb 4 with last := 1, act := [(1, 1, 2, 5, 0, 0)], rs := (newTb 4).rs.set 0 ⟨0, 1, 0, 1, 0, 0⟩ }
theorem aw_1 : (newTb 4).doPlain (subQ 1) = ((⟨0, 1, 0, 1, 0, 0⟩, true), awT) := by kernel_rfl
theorem aw_2 : awT.doPlain (subQ 1) = ((⟨0, 1, 0, 1, 0, 0⟩, false), awT) := by kernel_rfl
theorem aw_3 : awT.doPlain (subQ 3) = ((⟨0, 3, 11, 0, 0, 0⟩, false), awT) := by kernel_rfl

set_option maxRecDepth 100000 in
set_option maxHeartbeats 4000000 in
theorem awake16_any (w : World) : Calls Try.prog 6 #[] w fun e w' => e = .returned (.bool true) ∧ Below w.heap.size w w' := by
  go_enter Try.func6, Try.ntmps6
  go_wp2_with fail
  refine (jnew_any 4 w (by omega) (by omega)).mono ?_
  rintro e w0 ⟨rfl, ht, hb⟩
  obtain ⟨b, hbb⟩ : ∃ b, b = w.heap.size := ⟨_, rfl⟩
  have HLO := hid (show w.heap.size ≤ b by omega)
  rw [← hbb] at ht
  simp only [← hbb]
  have HT0 := hid ht
  have HB := hid hb
  clear ht hb hbb
  go_wp2_with fail
  refine (lawsubmit_any 1 w0).mono ?_
  rintro e y1 ⟨rfl, hb⟩
  have HT := hid (HT0.out.below hb)
  have HB := hid (HB.out.trans (hb.mono HB.out.size))
  clear hb
  have HD := hid (show Calls Try.prog 9 #[.pointer (some ⟨b, 0, none⟩), .agg #[.int .u8 0, .int .u32 1, .int .u8 1, .int .u8 1, .int .i64 2, .int .i64 5, .int .u32 0]] y1 fun e w' => e = .returned (.tuple #[.agg #[.int .u8 0, .int .u32 1, .int .i64 0, .int .u32 1, .int .u8 0, .int .i64 0], .bool true]) ∧ ∃ va' vo', Stp y1 b b (.slice none 0 0) (.slice none 0 0) w' va' vo' awT from do_at y1 b b (.slice none 0 0) (.slice none 0 0) (newTb 4) (subQ 1) HT.out (by decide) (by decide) (by unfold Note.Q.wf subQ; simp) (by decide) aw_1)
  go_wp2_with fail
  refine HD.out.mono ?_
  rintro e z1 ⟨rfl, va1, vo1, hs⟩
  have HB := hid (hs.bel HT.out HB.out HLO.out HB.out.size)
  obtain ⟨w1, hw1⟩ : ∃ w, w = z1.alloc (.cells #[.int .u8 0, .int .u32 1, .int .i64 0, .int .u32 1, .int .u8 0, .int .i64 0] 37) := ⟨_, rfl⟩
  obtain ⟨g1, hg1⟩ : ∃ g, g = z1.heap.size := ⟨_, rfl⟩
  have hbb : Below z1.heap.size z1 w1 := by rw [hw1]; exact (Below.refl _ _).alloc (Nat.le_refl _) _
  have HX1 := hid (show w1.heap[g1]? = some (.cells #[.int .u8 0, .int .u32 1, .int .i64 0, .int .u32 1, .int .u8 0, .int .i64 0] 37 (0, 0)) by rw [hw1, hg1]; exact heap_alloc_new z1 _)
  have HN1 := hid (show ¬ Tk b va1 vo1 g1 from fun e => by have := (hs.tb.tk_lt e).2; omega)
  have HT1 := hid (hs.tb.below hbb)
  have HB := hid (HB.out.trans (hbb.mono HB.out.size))
  have HW1 := hid hw1
  have HG1 := hid hg1
  clear hs hbb hw1 hg1
  go_upto_region 5 with (fail)
  rw [← HW1.out]
  simp only [← HG1.out]
  go_wp2_with fail
  refine (lawsubmit_any 1 w1).mono ?_
  rintro e y2 ⟨rfl, hb⟩
  have HT := hid (HT1.out.below hb)
  have HX1 := hid ((hb.block g1 (Array.getElem?_eq_some_iff.1 HX1.out).1).trans HX1.out)
  have hx1 := (Array.getElem?_eq_some_iff.1 HX1.out).1
  have HB := hid (HB.out.trans (hb.mono HB.out.size))
  clear hb
  have HD := hid (show Calls Try.prog 9 #[.pointer (some ⟨b, 0, none⟩), .agg #[.int .u8 0, .int .u32 1, .int .u8 1, .int .u8 1, .int .i64 2, .int .i64 5, .int .u32 0]] y2 fun e w' => e = .returned (.tuple #[.agg #[.int .u8 0, .int .u32 1, .int .i64 0, .int .u32 1, .int .u8 0, .int .i64 0], .bool false]) ∧ ∃ va' vo', Stp y2 b b va1 vo1 w' va' vo' awT from do_at y2 b b va1 vo1 awT (subQ 1) HT.out (by decide) (by decide) (by unfold Note.Q.wf subQ; simp) (by decide) aw_2)
  go_wp2_with fail
  refine HD.out.mono ?_
  rintro e z2 ⟨rfl, va2, vo2, hs⟩
  have HX1 := hid (hs.aside HX1.out HN1.out)
  have HN1 := hid (hs.apart hx1 HN1.out)
  have HB := hid (hs.bel HT.out HB.out HLO.out HB.out.size)
  obtain ⟨w2, hw2⟩ : ∃ w, w = z2.alloc (.cells #[.int .u8 0, .int .u32 1, .int .i64 0, .int .u32 1, .int .u8 0, .int .i64 0] 37) := ⟨_, rfl⟩
  obtain ⟨g2, hg2⟩ : ∃ g, g = z2.heap.size := ⟨_, rfl⟩
  have hbb : Below z2.heap.size z2 w2 := by rw [hw2]; exact (Below.refl _ _).alloc (Nat.le_refl _) _
  have HX2 := hid (show w2.heap[g2]? = some (.cells #[.int .u8 0, .int .u32 1, .int .i64 0, .int .u32 1, .int .u8 0, .int .i64 0] 37 (0, 0)) by rw [hw2, hg2]; exact heap_alloc_new z2 _)
  have HN2 := hid (show ¬ Tk b va2 vo2 g2 from fun e => by have := (hs.tb.tk_lt e).2; omega)
  have HX1 := hid ((hbb.block g1 (Array.getElem?_eq_some_iff.1 HX1.out).1).trans HX1.out)
  have HT2 := hid (hs.tb.below hbb)
  have HB := hid (HB.out.trans (hbb.mono HB.out.size))
  have HW2 := hid hw2
  have HG2 := hid hg2
  clear hs hbb hw2 hg2 hx1
  go_upto_region 6 with (fail)
  rw [← HW2.out]
  simp only [← HG2.out]
  go_wp2_with fail
  refine (lawsubmit_any 3 w2).mono ?_
  rintro e y3 ⟨rfl, hb⟩
  have HT := hid (HT2.out.below hb)
  have HX1 := hid ((hb.block g1 (Array.getElem?_eq_some_iff.1 HX1.out).1).trans HX1.out)
  have hx1 := (Array.getElem?_eq_some_iff.1 HX1.out).1
  have HX2 := hid ((hb.block g2 (Array.getElem?_eq_some_iff.1 HX2.out).1).trans HX2.out)
  have hx2 := (Array.getElem?_eq_some_iff.1 HX2.out).1
  have HB := hid (HB.out.trans (hb.mono HB.out.size))
  clear hb
  have HD := hid (show Calls Try.prog 9 #[.pointer (some ⟨b, 0, none⟩), .agg #[.int .u8 0, .int .u32 3, .int .u8 1, .int .u8 1, .int .i64 2, .int .i64 5, .int .u32 0]] y3 fun e w' => e = .returned (.tuple #[.agg #[.int .u8 0, .int .u32 3, .int .i64 11, .int .u32 0, .int .u8 0, .int .i64 0], .bool false]) ∧ ∃ va' vo', Stp y3 b b va2 vo2 w' va' vo' awT from do_at y3 b b va2 vo2 awT (subQ 3) HT.out (by decide) (by decide) (by unfold Note.Q.wf subQ; simp) (by decide) aw_3)
  go_wp2_with fail
  refine HD.out.mono ?_
  rintro e z3 ⟨rfl, va3, vo3, hs⟩
  have HX1 := hid (hs.aside HX1.out HN1.out)
  have HN1 := hid (hs.apart hx1 HN1.out)
  have HX2 := hid (hs.aside HX2.out HN2.out)
  have HN2 := hid (hs.apart hx2 HN2.out)
  have HB := hid (hs.bel HT.out HB.out HLO.out HB.out.size)
  obtain ⟨w3, hw3⟩ : ∃ w, w = z3.alloc (.cells #[.int .u8 0, .int .u32 3, .int .i64 11, .int .u32 0, .int .u8 0, .int .i64 0] 37) := ⟨_, rfl⟩
  obtain ⟨g3, hg3⟩ : ∃ g, g = z3.heap.size := ⟨_, rfl⟩
  have hbb : Below z3.heap.size z3 w3 := by rw [hw3]; exact (Below.refl _ _).alloc (Nat.le_refl _) _
  have HX3 := hid (show w3.heap[g3]? = some (.cells #[.int .u8 0, .int .u32 3, .int .i64 11, .int .u32 0, .int .u8 0, .int .i64 0] 37 (0, 0)) by rw [hw3, hg3]; exact heap_alloc_new z3 _)
  have HN3 := hid (show ¬ Tk b va3 vo3 g3 from fun e => by have := (hs.tb.tk_lt e).2; omega)
  have HX1 := hid ((hbb.block g1 (Array.getElem?_eq_some_iff.1 HX1.out).1).trans HX1.out)
  have HX2 := hid ((hbb.block g2 (Array.getElem?_eq_some_iff.1 HX2.out).1).trans HX2.out)
  have HT3 := hid (hs.tb.below hbb)
  have HB := hid (HB.out.trans (hbb.mono HB.out.size))
  have HW3 := hid hw3
  have HG3 := hid hg3
  clear hs hbb hw3 hg3 hx1 hx2
  go_upto_region 7 with (fail)
  rw [← HW3.out]
  simp only [← HG3.out]
  have c10 : w3.cell? ⟨g1, 0, none⟩ = some (.int .u8 0) := (cell_of_row _ _ _ _ _ _ HX1.out).trans rfl
  have c11 : w3.cell? ⟨g1, 1, none⟩ = some (.int .u32 1) := (cell_of_row _ _ _ _ _ _ HX1.out).trans rfl
  have c12 : w3.cell? ⟨g1, 2, none⟩ = some (.int .i64 0) := (cell_of_row _ _ _ _ _ _ HX1.out).trans rfl
  have c13 : w3.cell? ⟨g1, 3, none⟩ = some (.int .u32 1) := (cell_of_row _ _ _ _ _ _ HX1.out).trans rfl
  have c14 : w3.cell? ⟨g1, 4, none⟩ = some (.int .u8 0) := (cell_of_row _ _ _ _ _ _ HX1.out).trans rfl
  have c15 : w3.cell? ⟨g1, 5, none⟩ = some (.int .i64 0) := (cell_of_row _ _ _ _ _ _ HX1.out).trans rfl
  have c20 : w3.cell? ⟨g2, 0, none⟩ = some (.int .u8 0) := (cell_of_row _ _ _ _ _ _ HX2.out).trans rfl
  have c21 : w3.cell? ⟨g2, 1, none⟩ = some (.int .u32 1) := (cell_of_row _ _ _ _ _ _ HX2.out).trans rfl
  have c22 : w3.cell? ⟨g2, 2, none⟩ = some (.int .i64 0) := (cell_of_row _ _ _ _ _ _ HX2.out).trans rfl
  have c23 : w3.cell? ⟨g2, 3, none⟩ = some (.int .u32 1) := (cell_of_row _ _ _ _ _ _ HX2.out).trans rfl
  have c24 : w3.cell? ⟨g2, 4, none⟩ = some (.int .u8 0) := (cell_of_row _ _ _ _ _ _ HX2.out).trans rfl
  have c25 : w3.cell? ⟨g2, 5, none⟩ = some (.int .i64 0) := (cell_of_row _ _ _ _ _ _ HX2.out).trans rfl
  have c30 : w3.cell? ⟨g3, 0, none⟩ = some (.int .u8 0) := (cell_of_row _ _ _ _ _ _ HX3.out).trans rfl
  have c31 : w3.cell? ⟨g3, 1, none⟩ = some (.int .u32 3) := (cell_of_row _ _ _ _ _ _ HX3.out).trans rfl
  have c32 : w3.cell? ⟨g3, 2, none⟩ = some (.int .i64 11) := (cell_of_row _ _ _ _ _ _ HX3.out).trans rfl
  have c33 : w3.cell? ⟨g3, 3, none⟩ = some (.int .u32 0) := (cell_of_row _ _ _ _ _ _ HX3.out).trans rfl
  have c34 : w3.cell? ⟨g3, 4, none⟩ = some (.int .u8 0) := (cell_of_row _ _ _ _ _ _ HX3.out).trans rfl
  have c35 : w3.cell? ⟨g3, 5, none⟩ = some (.int .i64 0) := (cell_of_row _ _ _ _ _ _ HX3.out).trans rfl
  go_wp2_with fail
  go_ret
  exact ⟨rfl, HB.out⟩

end Go.Proofs.Ytahiaifdfgkemaa
