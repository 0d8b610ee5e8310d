/-
  Do, of a Submit or a Cancel.
-/
import Derived.Test.YtahiaifdfgkemaaJbC
namespace Go.Proofs.Ytahiaifdfgkemaa
open Go.RowKit
set_option linter.unusedVariables false
set_option linter.unusedSimpArgs false

abbrev rcellA (x : Note.R) : Array Value := #[.int .u8 (x.cl : Int), .int .u32 (x.s : Int), .int .i64 x.e, .int .u32 (x.j : Int), .int .u8 (x.st : Int), .int .i64 x.c]
def rv (x : Note.R) : Value := .agg (rcellA x)
def Tb.doPlain (t : Tb) (q : Note.Q) : (Note.R × Bool) × Tb :=
  if q.right = true then
    (if turn q.s (t.rs.getD q.cl Note.R.zero).s ≠ 0 then ((⟨q.cl, q.s, turn q.s (t.rs.getD q.cl Note.R.zero).s, 0, 0, 0⟩, false), t)
     else if q.s = (t.rs.getD q.cl Note.R.zero).s then ((t.rs.getD q.cl Note.R.zero, false), t)
     else if (t.change q).1.2 ≠ 0 then ((⟨q.cl, q.s, (t.change q).1.2, (t.change q).1.1, 0, 0⟩, false), (t.change q).2)
     else ((⟨q.cl, q.s, 0, (t.change q).1.1, 0, 0⟩, true), { (t.change q).2 with rs := (t.change q).2.rs.set q.cl ⟨q.cl, q.s, 0, (t.change q).1.1, 0, 0⟩ }))
  else ((⟨q.cl, q.s, 4, 0, 0, 0⟩, false), t)

theorem rcels_set : ∀ (l : List Note.R) (k : Nat) (r : Note.R), k < l.length →
    (((((((rcels l).set (k * 6) (.int .u8 (r.cl : Int))).set (k * 6 + 1) (.int .u32 (r.s : Int))).set (k * 6 + 2) (.int .i64 r.e)).set (k * 6 + 3) (.int .u32 (r.j : Int))).set (k * 6 + 4) (.int .u8 (r.st : Int))).set (k * 6 + 5) (.int .i64 r.c)) = rcels (l.set k r)
  | x :: l, 0, r, _ => by
    rw [rcels_cons, List.set_cons_zero, rcels_cons]
    rfl
  | x :: l, k + 1, r, hk => by
    have e (j : Nat) : (k + 1) * 6 + j = (rcel x).length + (k * 6 + j) := by show _ = 6 + _; omega
    have e0 : (k + 1) * 6 = (rcel x).length + k * 6 := by show _ = 6 + _; omega
    have st (m : List Value) (j : Nat) (v : Value) : (rcel x ++ m).set ((rcel x).length + j) v = rcel x ++ m.set j v := by rw [List.set_append_right _ _ (Nat.le_add_right _ _), Nat.add_sub_cancel_left]
    rw [List.set_cons_succ, rcels_cons, rcels_cons, ← rcels_set l k r (by simpa using hk)]
    rw [e 1, e 2, e 3, e 4, e 5, e0, st, st, st, st, st, st]
theorem cell_exJ {w : World} {g o : Nat} {cs : Array Value} {t : TypeId} {fr : Nat × Nat} (h : w.heap[g]? = some (.cells cs t fr)) (ho : o < cs.size) : ∃ u, w.cell? ⟨g, o, none⟩ = some u := ⟨cs[o], (cell_of_row _ _ _ _ _ _ h).trans (Array.getElem?_eq_getElem ho)⟩
section
variable {w w' : World} {lo b : Nat} {va vo va' vo' : Value} {t t' : Tb}
theorem Stp.set {wz : World} {g c : Nat} {v : Value} (h : Stp w lo b va vo wz va' vo' t') (hg : w.heap.size ≤ g) (hn : ¬ Tk b va' vo' g) : Stp w lo b va vo (wz.setCell ⟨g, c, none⟩ v) va' vo' t' :=
  ⟨h.tb.keeps (kset1 wz g c v) (fun k hk e => hn (e ▸ hk)), h.k.trans' (kset1 wz g c v) (fun i hi e => by omega), h.na, h.no⟩
abbrev setR (w : World) (g o : Nat) (r : Note.R) : World := (((((w.setCell ⟨g, o, none⟩ (.int .u8 (r.cl : Int))).setCell ⟨g, o + 1, none⟩ (.int .u32 (r.s : Int))).setCell ⟨g, o + 2, none⟩ (.int .i64 r.e)).setCell ⟨g, o + 3, none⟩ (.int .u32 (r.j : Int))).setCell ⟨g, o + 4, none⟩ (.int .u8 (r.st : Int))).setCell ⟨g, o + 5, none⟩ (.int .i64 r.c)
theorem setR_keeps (w : World) (g o : Nat) (r : Note.R) : Keeps (fun k => k = g) w (setR w g o r) :=
  (((((kset1 w g o _).trans (kset1 _ g (o + 1) _)).trans (kset1 _ g (o + 2) _)).trans (kset1 _ g (o + 3) _)).trans (kset1 _ g (o + 4) _)).trans (kset1 _ g (o + 5) _)
theorem TbAt.putRep (h : TbAt w lo b va vo t) {k : Nat} (hk : k < 8) (r : Note.R) : TbAt (setR w b (4 + k * 6) r) lo b va vo { t with rs := t.rs.set k r } := by
  have hkk := setR_keeps w b (4 + k * 6) r
  refine { h with blk := ?_, oa := owns_by h.oa fun j e => hkk.block j (World.ownsRow.lt h.oa j e).2 (h.ne_a j e), oo := owns_by h.oo fun j e => hkk.block j (World.ownsRow.lt h.oo j e).2 (h.ne_o j e), r8 := by rw [List.length_set]; exact h.r8 }
  rw [heap_setCell_arrJ _ _ _ _ _ _ _ (heap_setCell_arrJ _ _ _ _ _ _ _ (heap_setCell_arrJ _ _ _ _ _ _ _ (heap_setCell_arrJ _ _ _ _ _ _ _ (heap_setCell_arrJ _ _ _ _ _ _ _ (heap_setCell_arrJ _ _ _ _ _ _ _ h.blk)))))]
  have e (j : Nat) : 4 + k * 6 + j = (k * 6 + j) + 1 + 1 + 1 + 1 := by omega
  have e0 : 4 + k * 6 = k * 6 + 1 + 1 + 1 + 1 := by omega
  rw [e 1, e 2, e 3, e 4, e 5, e0]
  simp only [List.setIfInBounds_toArray]
  unfold tcel
  simp only [List.set_cons_succ]
  rw [rcels_set _ _ _ (by rw [h.r8]; exact hk)]
theorem Stp.setR {wz : World} {g o : Nat} {r : Note.R} (h : Stp w lo b va vo wz va' vo' t') (hg : w.heap.size ≤ g) (hn : ¬ Tk b va' vo' g) : Stp w lo b va vo (setR wz g o r) va' vo' t' :=
  (((((h.set hg hn).set hg hn).set hg hn).set hg hn).set hg hn).set hg hn
end

set_option maxRecDepth 100000 in
set_option maxHeartbeats 8000000 in
theorem doplain_any (w : World) (lo b : Nat) (va vo : Value) (t : Tb) (q : Note.Q) (h : TbAt w lo b va vo t) (hv : t.over.length ≤ 64) (hl : t.last < 100000) (hlo : lo ≤ w.heap.size) (hq : q.wf) (hk3 : q.k ≠ 3) :
    Calls Try.prog 9 #[.pointer (some ⟨b, 0, none⟩), .agg #[.int .u8 (q.cl : Int), .int .u32 (q.s : Int), .int .u8 (q.k : Int), .int .u8 (q.t : Int), .int .i64 q.kk, .int .i64 q.w, .int .u32 (q.j : Int)]] w fun e w' => e = .returned (.tuple #[rv (t.doPlain q).1.1, .bool (t.doPlain q).1.2]) ∧ ∃ va' vo', Stp w lo b va vo w' va' vo' (t.doPlain q).2 := by
  have H0 := hid h
  have HQW := hid hq
  have HV := hid hv
  have HLA := hid hl
  have HLO := hid hlo
  have dk3 : ((q.k : Int) == 3) = false := by rw [beq_eq_false_iff_ne]; omega
  obtain ⟨g0, hg0⟩ : ∃ g, g = w.heap.size := ⟨_, rfl⟩
  obtain ⟨g1, hg1⟩ : ∃ g, g = g0 + 1 := ⟨_, rfl⟩
  obtain ⟨g2, hg2⟩ : ∃ g, g = g0 + 1 + 1 := ⟨_, rfl⟩
  obtain ⟨w1, hw1⟩ : ∃ w1, w1 = ((w.alloc (.cells #[.int .u8 (q.cl : Int), .int .u32 (q.s : Int), .int .u8 (q.k : Int), .int .u8 (q.t : Int), .int .i64 q.kk, .int .i64 q.w, .int .u32 (q.j : Int)] 33)).alloc (.cells #[.int .u8 0, .int .u32 0, .int .i64 0, .int .u32 0, .int .u8 0, .int .i64 0] 37)).alloc (.cells #[.int .u8 (q.cl : Int), .int .u32 (q.s : Int), .int .i64 0, .int .u32 0, .int .u8 0, .int .i64 0] 37) := ⟨_, rfl⟩
  have hb1 : Below w.heap.size w w1 := by rw [hw1]; exact ((((Below.refl _ w).alloc (Nat.le_refl _) _).alloc (by simp) _).alloc (by simp; omega) _)
  have hs1 : w1.heap.size = w.heap.size + 3 := by rw [hw1]; simp
  have x2 : w1.heap[g2]? = some (.cells #[.int .u8 (q.cl : Int), .int .u32 (q.s : Int), .int .i64 0, .int .u32 0, .int .u8 0, .int .i64 0] 37 (0, 0)) := by rw [hw1, hg2, hg0]; exact (by have := heap_alloc_new ((w.alloc (.cells #[.int .u8 (q.cl : Int), .int .u32 (q.s : Int), .int .u8 (q.k : Int), .int .u8 (q.t : Int), .int .i64 q.kk, .int .i64 q.w, .int .u32 (q.j : Int)] 33)).alloc (.cells #[.int .u8 0, .int .u32 0, .int .i64 0, .int .u32 0, .int .u8 0, .int .i64 0] 37)) (.cells #[.int .u8 (q.cl : Int), .int .u32 (q.s : Int), .int .i64 0, .int .u32 0, .int .u8 0, .int .i64 0] 37); simpa using this)
  have x1 : w1.heap[g1]? = some (.cells #[.int .u8 0, .int .u32 0, .int .i64 0, .int .u32 0, .int .u8 0, .int .i64 0] 37 (0, 0)) := by
    rw [hw1, hg1, hg0]
    refine (((Below.refl _ ((w.alloc (.cells #[.int .u8 (q.cl : Int), .int .u32 (q.s : Int), .int .u8 (q.k : Int), .int .u8 (q.t : Int), .int .i64 q.kk, .int .i64 q.w, .int .u32 (q.j : Int)] 33)).alloc (.cells #[.int .u8 0, .int .u32 0, .int .i64 0, .int .u32 0, .int .u8 0, .int .i64 0] 37))).alloc (Nat.le_refl _) _).block _ (by simp)).trans ?_
    have := heap_alloc_new (w.alloc (.cells #[.int .u8 (q.cl : Int), .int .u32 (q.s : Int), .int .u8 (q.k : Int), .int .u8 (q.t : Int), .int .i64 q.kk, .int .i64 q.w, .int .u32 (q.j : Int)] 33)) (.cells #[.int .u8 0, .int .u32 0, .int .i64 0, .int .u32 0, .int .u8 0, .int .i64 0] 37)
    simpa using this
  have x0 : w1.heap[g0]? = some (.cells #[.int .u8 (q.cl : Int), .int .u32 (q.s : Int), .int .u8 (q.k : Int), .int .u8 (q.t : Int), .int .i64 q.kk, .int .i64 q.w, .int .u32 (q.j : Int)] 33 (0, 0)) := by
    rw [hw1, hg0]
    refine ((((Below.refl _ (w.alloc (.cells #[.int .u8 (q.cl : Int), .int .u32 (q.s : Int), .int .u8 (q.k : Int), .int .u8 (q.t : Int), .int .i64 q.kk, .int .i64 q.w, .int .u32 (q.j : Int)] 33))).alloc (Nat.le_refl _) _).alloc (by simp) _).block _ (by simp)).trans ?_
    exact heap_alloc_new w _
  have HX0 := hid x0
  have HX1 := hid x1
  have HX2 := hid x2
  have HB1 := hid hb1
  have HGS := hid (show w.heap.size ≤ g0 ∧ w.heap.size ≤ g1 ∧ w.heap.size ≤ g2 ∧ g0 < g1 ∧ g1 < g2 ∧ g2 < w1.heap.size by omega)
  have HNT := hid (show ∀ g, w.heap.size ≤ g → ¬ Tk b va vo g from fun g hg e => by have := (h.tk_lt e).2; omega)
  have HG := hid (And.intro hg0 (And.intro hg1 hg2))
  have HRI := hid (right_any w1 b q hq)
  have HW1 := hid hw1
  clear h hq hv hl hlo hb1 hs1 x0 x1 x2 hk3 hg0 hg1 hg2 hw1
  go_enter Try.func9, Try.ntmps9
  go_wp2_with fail
  rw [← HW1.out]
  simp only [← HG.out.1]
  try rw [← HG.out.2.2]
  try rw [← HG.out.2.1]
  try simp only [← HG.out.2.2, ← HG.out.2.1]
  refine HRI.out.mono ?_
  rintro e w2 ⟨rfl, hb2⟩
  have HB2 := hid hb2
  have HR1 := hid ((hb2.block g1 (by have := HGS.out; omega)).trans HX1.out)
  have HR0 := hid ((hb2.block g0 (by have := HGS.out; omega)).trans HX0.out)
  have HR2 := hid ((hb2.block g2 (by have := HGS.out; omega)).trans HX2.out)
  have HST := hid (Stp.of_below H0.out (HB1.out.trans (hb2.mono HB1.out.size)))
  have HN1 := hid (HNT.out g1 HGS.out.2.1)
  have HN2 := hid (HNT.out g2 HGS.out.2.2.1)
  have HS12 := hid hb2.size
  clear hb2
  rcases hr : q.right with _ | _
  · have HE := hid (show t.doPlain q = ((⟨q.cl, q.s, 4, 0, 0, 0⟩, false), t) by unfold Tb.doPlain; rw [if_neg (by rw [hr]; simp)])
    rw [if_neg (by simp)]
    clear hr
    obtain ⟨w3, hw3⟩ : ∃ z, z = w2.setCell ⟨g2, 2, none⟩ (.int .i64 4) := ⟨_, rfl⟩
    have HC2 := hid (show w3.heap[g2]? = some (.cells #[.int .u8 (q.cl : Int), .int .u32 (q.s : Int), .int .i64 4, .int .u32 0, .int .u8 0, .int .i64 0] 37 (0, 0)) by rw [hw3, heap_setCell_arrJ _ _ _ _ _ _ _ HR2.out]; simp)
    have HR1 := hid (show w3.heap[g1]? = _ from ((show Keeps (fun k => k = g2) w2 w3 by rw [hw3]; exact kset1 w2 g2 2 _).block g1 (Array.getElem?_eq_some_iff.1 HR1.out).1 (by have := HGS.out; omega)).trans HR1.out)
    have HR0 := hid (show w3.heap[g0]? = _ from ((show Keeps (fun k => k = g2) w2 w3 by rw [hw3]; exact kset1 w2 g2 2 _).block g0 (Array.getElem?_eq_some_iff.1 HR0.out).1 (by have := HGS.out; omega)).trans HR0.out)
    have HST := hid (show Stp w lo b va vo w3 va vo t by rw [hw3]; exact HST.out.set HGS.out.2.2.1 HN2.out)
    have HSZ3 := hid (show w3.heap.size = w2.heap.size by rw [hw3]; simp)
    have s2 : w2.cell? ⟨g2, 2, none⟩ = some (.int .i64 0) := (cell_of_row _ _ _ _ _ _ HR2.out).trans rfl
    have y2 : w2.frozen? ⟨g2, 2, none⟩ = false := frozen_of_row _ _ _ _ _ HR2.out
    have HW3 := hid hw3
    clear hw3
    go_upto_region 3 with (fail)
    rw [← HW3.out]
    clear s2 y2
    have p0 : w3.cell? ⟨g2, 0, none⟩ = some (.int .u8 (q.cl : Int)) := (cell_of_row _ _ _ _ _ _ HC2.out).trans rfl
    have p1 : w3.cell? ⟨g2, 1, none⟩ = some (.int .u32 (q.s : Int)) := (cell_of_row _ _ _ _ _ _ HC2.out).trans rfl
    have p2 : w3.cell? ⟨g2, 2, none⟩ = some (.int .i64 4) := (cell_of_row _ _ _ _ _ _ HC2.out).trans rfl
    have p3 : w3.cell? ⟨g2, 3, none⟩ = some (.int .u32 0) := (cell_of_row _ _ _ _ _ _ HC2.out).trans rfl
    have p4 : w3.cell? ⟨g2, 4, none⟩ = some (.int .u8 0) := (cell_of_row _ _ _ _ _ _ HC2.out).trans rfl
    have p5 : w3.cell? ⟨g2, 5, none⟩ = some (.int .i64 0) := (cell_of_row _ _ _ _ _ _ HC2.out).trans rfl
    have r0 : w3.cell? ⟨g1, 0, none⟩ = some (.int .u8 0) := (cell_of_row _ _ _ _ _ _ HR1.out).trans rfl
    have zr0 : w3.frozen? ⟨g1, 0, none⟩ = false := frozen_of_row _ _ _ _ _ HR1.out
    have r1 : w3.cell? ⟨g1, 1, none⟩ = some (.int .u32 0) := (cell_of_row _ _ _ _ _ _ HR1.out).trans rfl
    have zr1 : w3.frozen? ⟨g1, 1, none⟩ = false := frozen_of_row _ _ _ _ _ HR1.out
    have r2 : w3.cell? ⟨g1, 2, none⟩ = some (.int .i64 0) := (cell_of_row _ _ _ _ _ _ HR1.out).trans rfl
    have zr2 : w3.frozen? ⟨g1, 2, none⟩ = false := frozen_of_row _ _ _ _ _ HR1.out
    have r3 : w3.cell? ⟨g1, 3, none⟩ = some (.int .u32 0) := (cell_of_row _ _ _ _ _ _ HR1.out).trans rfl
    have zr3 : w3.frozen? ⟨g1, 3, none⟩ = false := frozen_of_row _ _ _ _ _ HR1.out
    have r4 : w3.cell? ⟨g1, 4, none⟩ = some (.int .u8 0) := (cell_of_row _ _ _ _ _ _ HR1.out).trans rfl
    have zr4 : w3.frozen? ⟨g1, 4, none⟩ = false := frozen_of_row _ _ _ _ _ HR1.out
    have r5 : w3.cell? ⟨g1, 5, none⟩ = some (.int .i64 0) := (cell_of_row _ _ _ _ _ _ HR1.out).trans rfl
    have zr5 : w3.frozen? ⟨g1, 5, none⟩ = false := frozen_of_row _ _ _ _ _ HR1.out
    go_wp2_with fail
    refine bodyPost_ret (results_cellJ rfl _ _ _ g1 37 _ (0, 0) _ rfl rfl (set6_heap HR1.out) Try.underlying37 (by kernel_rfl)) rfl ?_
    exact ⟨by rw [HE.out]; rfl, _, _, by rw [HE.out]; exact Stp.setR (r := ⟨q.cl, q.s, 4, 0, 0, 0⟩) (o := 0) HST.out HGS.out.2.1 HN1.out⟩
  · have HRT := hid hr
    rw [if_pos rfl]
    have hcl : q.cl < 8 := by
      unfold Note.Q.right at hr
      simp only [Bool.and_eq_true, decide_eq_true_eq] at hr
      exact hr.1.1.1
    clear hr
    obtain ⟨w3, hw3⟩ : ∃ z, z = w2.setCell ⟨g2, 2, none⟩ (.int .i64 0) := ⟨_, rfl⟩
    have HC2 := hid (show w3.heap[g2]? = some (.cells #[.int .u8 (q.cl : Int), .int .u32 (q.s : Int), .int .i64 0, .int .u32 0, .int .u8 0, .int .i64 0] 37 (0, 0)) by rw [hw3, heap_setCell_arrJ _ _ _ _ _ _ _ HR2.out]; simp)
    have HR1 := hid (show w3.heap[g1]? = _ from ((show Keeps (fun k => k = g2) w2 w3 by rw [hw3]; exact kset1 w2 g2 2 _).block g1 (Array.getElem?_eq_some_iff.1 HR1.out).1 (by have := HGS.out; omega)).trans HR1.out)
    have HR0 := hid (show w3.heap[g0]? = _ from ((show Keeps (fun k => k = g2) w2 w3 by rw [hw3]; exact kset1 w2 g2 2 _).block g0 (Array.getElem?_eq_some_iff.1 HR0.out).1 (by have := HGS.out; omega)).trans HR0.out)
    have HST := hid (show Stp w lo b va vo w3 va vo t by rw [hw3]; exact HST.out.set HGS.out.2.2.1 HN2.out)
    have HSZ3 := hid (show w3.heap.size = w2.heap.size by rw [hw3]; simp)
    have s2 : w2.cell? ⟨g2, 2, none⟩ = some (.int .i64 0) := (cell_of_row _ _ _ _ _ _ HR2.out).trans rfl
    have y2 : w2.frozen? ⟨g2, 2, none⟩ = false := frozen_of_row _ _ _ _ _ HR2.out
    have HW3 := hid hw3
    clear hw3
    go_upto_region 3 with (fail)
    rw [← HW3.out]
    clear s2 y2
    have p2 : w3.cell? ⟨g2, 2, none⟩ = some (.int .i64 0) := (cell_of_row _ _ _ _ _ _ HC2.out).trans rfl
    have k0 : w3.cell? ⟨g0, 0, none⟩ = some (.int .u8 (q.cl : Int)) := (cell_of_row _ _ _ _ _ _ HR0.out).trans rfl
    have k1 : w3.cell? ⟨g0, 1, none⟩ = some (.int .u32 (q.s : Int)) := (cell_of_row _ _ _ _ _ _ HR0.out).trans rfl
    have k2 : w3.cell? ⟨g0, 2, none⟩ = some (.int .u8 (q.k : Int)) := (cell_of_row _ _ _ _ _ _ HR0.out).trans rfl
    have HPK := hid (show w3.cell? ⟨g0, 0, none⟩ = some (.int .u8 (q.cl : Int)) from k0)
    clear k0 k1
    obtain ⟨x, hx⟩ : ∃ x, t.rs[q.cl]? = some x := ⟨_, List.getElem?_eq_getElem (by have := H0.out.r8; omega)⟩
    have HXG := hid (show t.rs.getD q.cl Note.R.zero = x by rw [List.getD_eq_getElem?_getD, hx]; rfl)
    have HXX := hid hx
    have hcl' : (q.cl : Int) < 8 := by omega
    clear hx
    go_upto_region 7 with (fail)
    have HUN := hid (fun (L : Array Bool) (W : World) (hk : Below w3.heap.size w3 W) => show UntilAll [(8, (fun w' => w'.cell? ⟨g0, 0, none⟩ = some (.int .u8 (q.cl : Int)) ∧ w'.cell? ⟨b, 4 + q.cl * 6, none⟩ = some (.int .u8 (x.cl : Int)) ∧ w'.cell? ⟨b, 4 + q.cl * 6 + 1, none⟩ = some (.int .u32 (x.s : Int)) ∧ w'.cell? ⟨b, 4 + q.cl * 6 + 2, none⟩ = some (.int .i64 x.e) ∧ w'.cell? ⟨b, 4 + q.cl * 6 + 3, none⟩ = some (.int .u32 (x.j : Int)) ∧ w'.cell? ⟨b, 4 + q.cl * 6 + 4, none⟩ = some (.int .u8 (x.st : Int)) ∧ w'.cell? ⟨b, 4 + q.cl * 6 + 5, none⟩ = some (.int .i64 x.c)))] L W from fun c hc _ => by
      rw [List.mem_singleton] at hc
      subst hc
      have ht := HST.out.tb.below hk
      exact ⟨(hk.cell (p := ⟨g0, 0, none⟩) (Array.getElem?_eq_some_iff.1 HR0.out).1).trans HPK.out, ht.cr (c := 0) HXX.out rfl, ht.cr (c := 1) HXX.out rfl, ht.cr (c := 2) HXX.out rfl, ht.cr (c := 3) HXX.out rfl, ht.cr (c := 4) HXX.out rfl, ht.cr (c := 5) HXX.out rfl⟩)
    have HK0 := hid (show Below w3.heap.size w3 w3.drew from (Below.refl _ _).drew)
    clear p2 k2
    refine Orders.begins (C := [(8, (fun w' => w'.cell? ⟨g0, 0, none⟩ = some (.int .u8 (q.cl : Int)) ∧ w'.cell? ⟨b, 4 + q.cl * 6, none⟩ = some (.int .u8 (x.cl : Int)) ∧ w'.cell? ⟨b, 4 + q.cl * 6 + 1, none⟩ = some (.int .u32 (x.s : Int)) ∧ w'.cell? ⟨b, 4 + q.cl * 6 + 2, none⟩ = some (.int .i64 x.e) ∧ w'.cell? ⟨b, 4 + q.cl * 6 + 3, none⟩ = some (.int .u32 (x.j : Int)) ∧ w'.cell? ⟨b, 4 + q.cl * 6 + 4, none⟩ = some (.int .u8 (x.st : Int)) ∧ w'.cell? ⟨b, 4 + q.cl * 6 + 5, none⟩ = some (.int .i64 x.c)))]) (by kernel_rfl) ?_
    refine Orders.take (fun _ => True) [] (i := 0) (v := ?_) rfl (by kernel_rfl) (by kernel_rfl) (by kernel_rfl) (fun _ _ _ h => h) (by kernel_rfl) (fun _ _ _ _ => trivial) (by kernel_rfl) (by kernel_rfl) (Or.inl ⟨by rfl, ?_⟩) (HUN.out _ _ HK0.out) (fun HU => ?_)
    rotate_left
    · intro u hSw
      try dsimp only at hSw
      skip
      go_simp
      try (with_reducible rfl)
    clear HU
    try simp only [Act.put, List.getElem_toArray, List.getElem_cons_succ, List.getElem_cons_zero, List.setIfInBounds_toArray, List.set_cons_zero, List.set_cons_succ]
    refine Orders.take (fun _ => True) [] (i := 1) (v := ?_) rfl (by kernel_rfl) (by kernel_rfl) (by kernel_rfl) (fun _ _ _ h => h) (by kernel_rfl) (fun _ _ _ _ => trivial) (by kernel_rfl) (by kernel_rfl) (Or.inl ⟨by rfl, ?_⟩) (HUN.out _ _ HK0.out) (fun HU => ?_)
    rotate_left
    · intro u hSw
      try dsimp only at hSw
      skip
      go_simp
      try (with_reducible rfl)
    clear HU
    try simp only [Act.put, List.getElem_toArray, List.getElem_cons_succ, List.getElem_cons_zero, List.setIfInBounds_toArray, List.set_cons_zero, List.set_cons_succ]
    refine Orders.take (fun w' => w'.cell? ⟨g0, 0, none⟩ = some (.int .u8 (q.cl : Int)) ∧ w'.cell? ⟨b, 4 + q.cl * 6, none⟩ = some (.int .u8 (x.cl : Int)) ∧ w'.cell? ⟨b, 4 + q.cl * 6 + 1, none⟩ = some (.int .u32 (x.s : Int)) ∧ w'.cell? ⟨b, 4 + q.cl * 6 + 2, none⟩ = some (.int .i64 x.e) ∧ w'.cell? ⟨b, 4 + q.cl * 6 + 3, none⟩ = some (.int .u32 (x.j : Int)) ∧ w'.cell? ⟨b, 4 + q.cl * 6 + 4, none⟩ = some (.int .u8 (x.st : Int)) ∧ w'.cell? ⟨b, 4 + q.cl * 6 + 5, none⟩ = some (.int .i64 x.c)) [8] (i := 2) (v := ?_) rfl (by kernel_rfl) (by kernel_rfl) (by kernel_rfl) (fun _ _ _ h => h) (by kernel_rfl) (fun L u hd h => h (8, (fun w' => w'.cell? ⟨g0, 0, none⟩ = some (.int .u8 (q.cl : Int)) ∧ w'.cell? ⟨b, 4 + q.cl * 6, none⟩ = some (.int .u8 (x.cl : Int)) ∧ w'.cell? ⟨b, 4 + q.cl * 6 + 1, none⟩ = some (.int .u32 (x.s : Int)) ∧ w'.cell? ⟨b, 4 + q.cl * 6 + 2, none⟩ = some (.int .i64 x.e) ∧ w'.cell? ⟨b, 4 + q.cl * 6 + 3, none⟩ = some (.int .u32 (x.j : Int)) ∧ w'.cell? ⟨b, 4 + q.cl * 6 + 4, none⟩ = some (.int .u8 (x.st : Int)) ∧ w'.cell? ⟨b, 4 + q.cl * 6 + 5, none⟩ = some (.int .i64 x.c))) (by simp) (hd 8 (by simp))) (by kernel_rfl) (by kernel_rfl) (Or.inl ⟨by rfl, ?_⟩) (HUN.out _ _ HK0.out) (fun HU => ?_)
    rotate_left
    · intro u hSw
      try dsimp only at hSw
      obtain ⟨k0, a0, a1, a2, a3, a4, a5⟩ := hSw
      skip
      go_simp
      try (with_reducible rfl)
    clear HU
    try simp only [Act.put, List.getElem_toArray, List.getElem_cons_succ, List.getElem_cons_zero, List.setIfInBounds_toArray, List.set_cons_zero, List.set_cons_succ]
    refine Orders.take (fun _ => True) [] (i := 3) (v := ?_) rfl (by kernel_rfl) (by kernel_rfl) (by kernel_rfl) (fun _ _ _ h => h) (by kernel_rfl) (fun _ _ _ _ => trivial) (by kernel_rfl) (by kernel_rfl) (Or.inl ⟨by rfl, ?_⟩) (HUN.out _ _ HK0.out) (fun HU => ?_)
    rotate_left
    · intro u hSw
      try dsimp only at hSw
      skip
      go_simp
      try (with_reducible rfl)
    clear HU
    try simp only [Act.put, List.getElem_toArray, List.getElem_cons_succ, List.getElem_cons_zero, List.setIfInBounds_toArray, List.set_cons_zero, List.set_cons_succ]
    refine Orders.take (fun _ => True) [] (i := 4) (v := ?_) rfl (by kernel_rfl) (by kernel_rfl) (by kernel_rfl) (fun _ _ _ h => h) (by kernel_rfl) (fun _ _ _ _ => trivial) (by kernel_rfl) (by kernel_rfl) (Or.inl ⟨by rfl, ?_⟩) (HUN.out _ _ HK0.out) (fun HU => ?_)
    rotate_left
    · intro u hSw
      try dsimp only at hSw
      skip
      go_simp
      try (with_reducible rfl)
    clear HU
    try simp only [Act.put, List.getElem_toArray, List.getElem_cons_succ, List.getElem_cons_zero, List.setIfInBounds_toArray, List.set_cons_zero, List.set_cons_succ]
    refine Orders.take (fun _ => True) [] (i := 5) (v := ?_) rfl (by kernel_rfl) (by kernel_rfl) (by kernel_rfl) (fun _ _ _ h => h) (by kernel_rfl) (fun _ _ _ _ => trivial) (by kernel_rfl) (by kernel_rfl) (Or.inl ⟨by rfl, ?_⟩) (HUN.out _ _ HK0.out) (fun HU => ?_)
    rotate_left
    · intro u hSw
      try dsimp only at hSw
      skip
      go_simp
      try (with_reducible rfl)
    clear HU
    try simp only [Act.put, List.getElem_toArray, List.getElem_cons_succ, List.getElem_cons_zero, List.setIfInBounds_toArray, List.set_cons_zero, List.set_cons_succ]
    refine Orders.take (fun w' => w'.cell? ⟨g0, 0, none⟩ = some (.int .u8 (q.cl : Int)) ∧ w'.cell? ⟨b, 4 + q.cl * 6, none⟩ = some (.int .u8 (x.cl : Int)) ∧ w'.cell? ⟨b, 4 + q.cl * 6 + 1, none⟩ = some (.int .u32 (x.s : Int)) ∧ w'.cell? ⟨b, 4 + q.cl * 6 + 2, none⟩ = some (.int .i64 x.e) ∧ w'.cell? ⟨b, 4 + q.cl * 6 + 3, none⟩ = some (.int .u32 (x.j : Int)) ∧ w'.cell? ⟨b, 4 + q.cl * 6 + 4, none⟩ = some (.int .u8 (x.st : Int)) ∧ w'.cell? ⟨b, 4 + q.cl * 6 + 5, none⟩ = some (.int .i64 x.c)) [8] (i := 6) (v := ?_) rfl (by kernel_rfl) (by kernel_rfl) (by kernel_rfl) (fun _ _ _ h => h) (by kernel_rfl) (fun L u hd h => h (8, (fun w' => w'.cell? ⟨g0, 0, none⟩ = some (.int .u8 (q.cl : Int)) ∧ w'.cell? ⟨b, 4 + q.cl * 6, none⟩ = some (.int .u8 (x.cl : Int)) ∧ w'.cell? ⟨b, 4 + q.cl * 6 + 1, none⟩ = some (.int .u32 (x.s : Int)) ∧ w'.cell? ⟨b, 4 + q.cl * 6 + 2, none⟩ = some (.int .i64 x.e) ∧ w'.cell? ⟨b, 4 + q.cl * 6 + 3, none⟩ = some (.int .u32 (x.j : Int)) ∧ w'.cell? ⟨b, 4 + q.cl * 6 + 4, none⟩ = some (.int .u8 (x.st : Int)) ∧ w'.cell? ⟨b, 4 + q.cl * 6 + 5, none⟩ = some (.int .i64 x.c))) (by simp) (hd 8 (by simp))) (by kernel_rfl) (by kernel_rfl) (Or.inl ⟨by rfl, ?_⟩) (HUN.out _ _ HK0.out) (fun HU => ?_)
    rotate_left
    · intro u hSw
      try dsimp only at hSw
      obtain ⟨k0, a0, a1, a2, a3, a4, a5⟩ := hSw
      skip
      go_simp
      try (with_reducible rfl)
    clear HU
    try simp only [Act.put, List.getElem_toArray, List.getElem_cons_succ, List.getElem_cons_zero, List.setIfInBounds_toArray, List.set_cons_zero, List.set_cons_succ]
    refine Orders.one (i := 7) (by kernel_rfl) rfl (fun K hK => ?_)
    try simp only [Act.put, List.getElem_toArray, List.getElem_cons_succ, List.getElem_cons_zero, List.setIfInBounds_toArray, List.set_cons_zero, List.set_cons_succ]
    go_simp
    have HK1 := hid (HK0.out.alloc (Nat.le_refl _) (.cells #[.int .u8 0, .int .u32 0, .int .i64 0, .int .u32 0, .int .u8 0, .int .i64 0] 37))
    have hx7 : (w3.drew.alloc (.cells #[.int .u8 0, .int .u32 0, .int .i64 0, .int .u32 0, .int .u8 0, .int .i64 0] 37)).heap[w3.heap.size]? = some (.cells #[.int .u8 0, .int .u32 0, .int .i64 0, .int .u32 0, .int .u8 0, .int .i64 0] 37 (0, 0)) := heap_alloc_new w3.drew _
    refine hK.out _ _ (HUN.out _ _ HK1.out) (fun HU => ?_)
    clear hK K HU
    try simp only [Act.put, List.getElem_toArray, List.getElem_cons_succ, List.getElem_cons_zero, List.setIfInBounds_toArray, List.set_cons_zero, List.set_cons_succ]
    have n0 : (w3.drew.alloc (.cells #[.int .u8 0, .int .u32 0, .int .i64 0, .int .u32 0, .int .u8 0, .int .i64 0] 37)).cell? ⟨w3.heap.size, 0, none⟩ = some (.int .u8 0) := (cell_of_row _ _ _ _ _ _ hx7).trans rfl
    have zn0 : (w3.drew.alloc (.cells #[.int .u8 0, .int .u32 0, .int .i64 0, .int .u32 0, .int .u8 0, .int .i64 0] 37)).frozen? ⟨w3.heap.size, 0, none⟩ = false := frozen_of_row _ _ _ _ _ hx7
    have n1 : (w3.drew.alloc (.cells #[.int .u8 0, .int .u32 0, .int .i64 0, .int .u32 0, .int .u8 0, .int .i64 0] 37)).cell? ⟨w3.heap.size, 1, none⟩ = some (.int .u32 0) := (cell_of_row _ _ _ _ _ _ hx7).trans rfl
    have zn1 : (w3.drew.alloc (.cells #[.int .u8 0, .int .u32 0, .int .i64 0, .int .u32 0, .int .u8 0, .int .i64 0] 37)).frozen? ⟨w3.heap.size, 1, none⟩ = false := frozen_of_row _ _ _ _ _ hx7
    have n2 : (w3.drew.alloc (.cells #[.int .u8 0, .int .u32 0, .int .i64 0, .int .u32 0, .int .u8 0, .int .i64 0] 37)).cell? ⟨w3.heap.size, 2, none⟩ = some (.int .i64 0) := (cell_of_row _ _ _ _ _ _ hx7).trans rfl
    have zn2 : (w3.drew.alloc (.cells #[.int .u8 0, .int .u32 0, .int .i64 0, .int .u32 0, .int .u8 0, .int .i64 0] 37)).frozen? ⟨w3.heap.size, 2, none⟩ = false := frozen_of_row _ _ _ _ _ hx7
    have n3 : (w3.drew.alloc (.cells #[.int .u8 0, .int .u32 0, .int .i64 0, .int .u32 0, .int .u8 0, .int .i64 0] 37)).cell? ⟨w3.heap.size, 3, none⟩ = some (.int .u32 0) := (cell_of_row _ _ _ _ _ _ hx7).trans rfl
    have zn3 : (w3.drew.alloc (.cells #[.int .u8 0, .int .u32 0, .int .i64 0, .int .u32 0, .int .u8 0, .int .i64 0] 37)).frozen? ⟨w3.heap.size, 3, none⟩ = false := frozen_of_row _ _ _ _ _ hx7
    have n4 : (w3.drew.alloc (.cells #[.int .u8 0, .int .u32 0, .int .i64 0, .int .u32 0, .int .u8 0, .int .i64 0] 37)).cell? ⟨w3.heap.size, 4, none⟩ = some (.int .u8 0) := (cell_of_row _ _ _ _ _ _ hx7).trans rfl
    have zn4 : (w3.drew.alloc (.cells #[.int .u8 0, .int .u32 0, .int .i64 0, .int .u32 0, .int .u8 0, .int .i64 0] 37)).frozen? ⟨w3.heap.size, 4, none⟩ = false := frozen_of_row _ _ _ _ _ hx7
    have n5 : (w3.drew.alloc (.cells #[.int .u8 0, .int .u32 0, .int .i64 0, .int .u32 0, .int .u8 0, .int .i64 0] 37)).cell? ⟨w3.heap.size, 5, none⟩ = some (.int .i64 0) := (cell_of_row _ _ _ _ _ _ hx7).trans rfl
    have zn5 : (w3.drew.alloc (.cells #[.int .u8 0, .int .u32 0, .int .i64 0, .int .u32 0, .int .u8 0, .int .i64 0] 37)).frozen? ⟨w3.heap.size, 5, none⟩ = false := frozen_of_row _ _ _ _ _ hx7
    have HX7 := hid hx7
    clear hx7
    refine Orders.one (i := 8) (by kernel_rfl) rfl (fun K hK => ?_)
    try simp only [Act.put, List.getElem_toArray, List.getElem_cons_succ, List.getElem_cons_zero, List.setIfInBounds_toArray, List.set_cons_zero, List.set_cons_succ]
    go_simp
    refine hK.out _ _ ?_ (fun HU => ?_)
    · intro c hc hl
      rw [List.mem_singleton] at hc
      subst hc
      exact absurd hl (fun h => Bool.noConfusion (h.symm.trans (by kernel_rfl : _ = true)))
    clear hK K HU
    try simp only [Act.put, List.getElem_toArray, List.getElem_cons_succ, List.getElem_cons_zero, List.setIfInBounds_toArray, List.set_cons_zero, List.set_cons_succ]
    refine Orders.ends (by kernel_rfl) ?_ _
    obtain ⟨g7, hg7⟩ : ∃ g, g = w3.heap.size := ⟨_, rfl⟩
    obtain ⟨w4, hw4⟩ : ∃ z, z = (w3.alloc (.cells #[.int .u8 (x.cl : Int), .int .u32 (x.s : Int), .int .i64 x.e, .int .u32 (x.j : Int), .int .u8 (x.st : Int), .int .i64 x.c] 37)).drew := ⟨_, rfl⟩
    have hb4 : Below w3.heap.size w3 w4 := by rw [hw4]; exact ((Below.refl _ _).alloc (Nat.le_refl _) _).drew
    clear HX7
    have HX7 := hid (show w4.heap[g7]? = some (.cells #[.int .u8 (x.cl : Int), .int .u32 (x.s : Int), .int .i64 x.e, .int .u32 (x.j : Int), .int .u8 (x.st : Int), .int .i64 x.c] 37 (0, 0)) by rw [hw4, hg7]; exact heap_alloc_new w3 _)
    rw [← hw4]
    simp only [← hg7]
    have HR0 := hid ((hb4.block g0 (Array.getElem?_eq_some_iff.1 HR0.out).1).trans HR0.out)
    have HR1 := hid ((hb4.block g1 (Array.getElem?_eq_some_iff.1 HR1.out).1).trans HR1.out)
    have hlt2 := (Array.getElem?_eq_some_iff.1 HC2.out).1
    have HC2 := hid ((hb4.block g2 hlt2).trans HC2.out)
    have HST := hid (HST.out.below hb4)
    have HG7 := hid (show g2 < g7 ∧ w.heap.size ≤ g7 by have := HGS.out; omega)
    clear hw4 hg7 hb4 hlt2 HK0 HK1 HUN n0 n1 n2 n3 n4 n5 zn0 zn1 zn2 zn3 zn4 zn5
    have k1 : w4.cell? ⟨g0, 1, none⟩ = some (.int .u32 (q.s : Int)) := (cell_of_row _ _ _ _ _ _ HR0.out).trans rfl
    have m1 : w4.cell? ⟨g7, 1, none⟩ = some (.int .u32 (x.s : Int)) := (cell_of_row _ _ _ _ _ _ HX7.out).trans rfl
    have s2 : w4.cell? ⟨g2, 2, none⟩ = some (.int .i64 0) := (cell_of_row _ _ _ _ _ _ HC2.out).trans rfl
    have zs2 : w4.frozen? ⟨g2, 2, none⟩ = false := frozen_of_row _ _ _ _ _ HC2.out
    have HTU := hid (inturn_any w4 q.s x.s (by have := HQW.out; unfold Note.Q.wf at this; exact this.2.1))
    by_cases htu : turn q.s x.s = 0
    · rw [htu] at HTU
      have HTZ := hid htu
      clear htu
      go_wp2_with fail
      refine HTU.out.mono ?_
      rintro e w4' ⟨rfl, rfl⟩
      obtain ⟨w5, hw5⟩ : ∃ z, z = (w4.setCell ⟨g2, 2, none⟩ (.int .i64 0)) := ⟨_, rfl⟩
      have hk : Keeps (fun k => k = g2) w4 w5 := by rw [hw5]; exact (kset1 w4 g2 2 (.int .i64 0))
      have HC2 := hid (show w5.heap[g2]? = some (.cells #[.int .u8 (q.cl : Int), .int .u32 (q.s : Int), .int .i64 0, .int .u32 0, .int .u8 0, .int .i64 0] 37 (0, 0)) by rw [hw5, (heap_setCell_arrJ _ _ _ _ _ _ _ HC2.out)]; simp)
      have HR0 := hid ((hk.block g0 (Array.getElem?_eq_some_iff.1 HR0.out).1 (by have := HGS.out; have := HG7.out; omega)).trans HR0.out)
      have HR1 := hid ((hk.block g1 (Array.getElem?_eq_some_iff.1 HR1.out).1 (by have := HGS.out; have := HG7.out; omega)).trans HR1.out)
      have HX7 := hid ((hk.block g7 (Array.getElem?_eq_some_iff.1 HX7.out).1 (by have := HGS.out; have := HG7.out; omega)).trans HX7.out)
      have HST := hid (show Stp w lo b va vo w5 va vo t by rw [hw5]; exact (HST.out.set HGS.out.2.2.1 HN2.out))
      have hszw5 : w5.heap.size = w4.heap.size := by rw [hw5]; simp
      have Hw5 := hid hw5
      clear hk hw5
      have p2 : w5.cell? ⟨g2, 2, none⟩ = some (.int .i64 0) := (cell_of_row _ _ _ _ _ _ HC2.out).trans rfl
      rw [Hw5.out] at p2
      go_upto_region 11 with (fail)
      rw [← Hw5.out]
      clear k1 m1 s2 zs2 p2
      have k1 : w5.cell? ⟨g0, 1, none⟩ = some (.int .u32 (q.s : Int)) := (cell_of_row _ _ _ _ _ _ HR0.out).trans rfl
      have m1 : w5.cell? ⟨g7, 1, none⟩ = some (.int .u32 (x.s : Int)) := (cell_of_row _ _ _ _ _ _ HX7.out).trans rfl
      by_cases heq : q.s = x.s
      · have de : ((q.s : Int) == (x.s : Int)) = true := by rw [beq_iff_eq]; omega
        have HE := hid (show t.doPlain q = ((x, false), t) by unfold Tb.doPlain; rw [if_pos HRT.out, HXG.out, if_neg (by rw [HTZ.out]; simp), if_pos heq])
        clear heq
        have p0 : w5.cell? ⟨g7, 0, none⟩ = some (.int .u8 (x.cl : Int)) := (cell_of_row _ _ _ _ _ _ HX7.out).trans rfl
        have p1 : w5.cell? ⟨g7, 1, none⟩ = some (.int .u32 (x.s : Int)) := (cell_of_row _ _ _ _ _ _ HX7.out).trans rfl
        have p2 : w5.cell? ⟨g7, 2, none⟩ = some (.int .i64 x.e) := (cell_of_row _ _ _ _ _ _ HX7.out).trans rfl
        have p3 : w5.cell? ⟨g7, 3, none⟩ = some (.int .u32 (x.j : Int)) := (cell_of_row _ _ _ _ _ _ HX7.out).trans rfl
        have p4 : w5.cell? ⟨g7, 4, none⟩ = some (.int .u8 (x.st : Int)) := (cell_of_row _ _ _ _ _ _ HX7.out).trans rfl
        have p5 : w5.cell? ⟨g7, 5, none⟩ = some (.int .i64 x.c) := (cell_of_row _ _ _ _ _ _ HX7.out).trans rfl
        have r0 : w5.cell? ⟨g1, 0, none⟩ = some (.int .u8 0) := (cell_of_row _ _ _ _ _ _ HR1.out).trans rfl
        have zr0 : w5.frozen? ⟨g1, 0, none⟩ = false := frozen_of_row _ _ _ _ _ HR1.out
        have r1 : w5.cell? ⟨g1, 1, none⟩ = some (.int .u32 0) := (cell_of_row _ _ _ _ _ _ HR1.out).trans rfl
        have zr1 : w5.frozen? ⟨g1, 1, none⟩ = false := frozen_of_row _ _ _ _ _ HR1.out
        have r2 : w5.cell? ⟨g1, 2, none⟩ = some (.int .i64 0) := (cell_of_row _ _ _ _ _ _ HR1.out).trans rfl
        have zr2 : w5.frozen? ⟨g1, 2, none⟩ = false := frozen_of_row _ _ _ _ _ HR1.out
        have r3 : w5.cell? ⟨g1, 3, none⟩ = some (.int .u32 0) := (cell_of_row _ _ _ _ _ _ HR1.out).trans rfl
        have zr3 : w5.frozen? ⟨g1, 3, none⟩ = false := frozen_of_row _ _ _ _ _ HR1.out
        have r4 : w5.cell? ⟨g1, 4, none⟩ = some (.int .u8 0) := (cell_of_row _ _ _ _ _ _ HR1.out).trans rfl
        have zr4 : w5.frozen? ⟨g1, 4, none⟩ = false := frozen_of_row _ _ _ _ _ HR1.out
        have r5 : w5.cell? ⟨g1, 5, none⟩ = some (.int .i64 0) := (cell_of_row _ _ _ _ _ _ HR1.out).trans rfl
        have zr5 : w5.frozen? ⟨g1, 5, none⟩ = false := frozen_of_row _ _ _ _ _ HR1.out
        go_wp2_with fail
        refine bodyPost_ret (results_cellJ rfl _ _ _ g1 37 _ (0, 0) _ rfl rfl (set6_heap HR1.out) Try.underlying37 (by kernel_rfl)) rfl ?_
        exact ⟨by rw [HE.out]; rfl, _, _, by rw [HE.out]; exact Stp.setR (r := x) (o := 0) HST.out HGS.out.2.1 HN1.out⟩
      · have de : ((q.s : Int) == (x.s : Int)) = false := by rw [beq_eq_false_iff_ne]; omega
        have HNE := hid heq
        have HCH := hid (change_any w5 lo b va vo t q HST.out.tb HV.out HLA.out (by have := HLO.out; have := HST.out.k.size; omega))
        clear heq
        have k0 : w5.cell? ⟨g0, 0, none⟩ = some (.int .u8 (q.cl : Int)) := (cell_of_row _ _ _ _ _ _ HR0.out).trans rfl
        have k2 : w5.cell? ⟨g0, 2, none⟩ = some (.int .u8 (q.k : Int)) := (cell_of_row _ _ _ _ _ _ HR0.out).trans rfl
        have k3 : w5.cell? ⟨g0, 3, none⟩ = some (.int .u8 (q.t : Int)) := (cell_of_row _ _ _ _ _ _ HR0.out).trans rfl
        have k4 : w5.cell? ⟨g0, 4, none⟩ = some (.int .i64 q.kk) := (cell_of_row _ _ _ _ _ _ HR0.out).trans rfl
        have k5 : w5.cell? ⟨g0, 5, none⟩ = some (.int .i64 q.w) := (cell_of_row _ _ _ _ _ _ HR0.out).trans rfl
        have k6 : w5.cell? ⟨g0, 6, none⟩ = some (.int .u32 (q.j : Int)) := (cell_of_row _ _ _ _ _ _ HR0.out).trans rfl
        go_wp2_with fail
        refine HCH.out.mono ?_
        rintro e w6 ⟨rfl, va', vo', hs⟩
        have HNW := hid (show ∀ g, w.heap.size ≤ g → g < w5.heap.size → ¬ Tk b va' vo' g from fun g h1 h2 e => by
          rcases e with e | e | e
          · exact HNT.out g h1 (.inl e)
          · rcases hs.na g e with e | e
            · exact HNT.out g h1 (.inr (.inl e))
            · omega
          · rcases hs.no g e with e | e
            · exact HNT.out g h1 (.inr (.inr e))
            · omega)
        have hl7 := (Array.getElem?_eq_some_iff.1 HX7.out).1
        have HR0 := hid ((hs.k.block g0 (Array.getElem?_eq_some_iff.1 HR0.out).1 (HNT.out g0 HGS.out.1)).trans HR0.out)
        have HR1 := hid ((hs.k.block g1 (Array.getElem?_eq_some_iff.1 HR1.out).1 (HNT.out g1 HGS.out.2.1)).trans HR1.out)
        have HC2 := hid ((hs.k.block g2 (Array.getElem?_eq_some_iff.1 HC2.out).1 (HNT.out g2 HGS.out.2.2.1)).trans HC2.out)
        have HX7 := hid ((hs.k.block g7 hl7 (HNT.out g7 HG7.out.2)).trans HX7.out)
        have HST := hid (HST.out.trans hs)
        have HN1 := hid (HNW.out g1 HGS.out.2.1 (by have := HGS.out; have := HG7.out; omega))
        have HN2 := hid (HNW.out g2 HGS.out.2.2.1 (by have := HG7.out; omega))
        have HCR := hid (show t.change q = t.change q from rfl)
        obtain ⟨cj, hcj⟩ : ∃ j, j = (t.change q).1.1 := ⟨_, rfl⟩
        obtain ⟨ce, hce⟩ : ∃ j, j = (t.change q).1.2 := ⟨_, rfl⟩
        obtain ⟨tc, htc⟩ : ∃ j, j = (t.change q).2 := ⟨_, rfl⟩
        rw [← htc] at HST
        rw [← hcj, ← hce]
        clear hs hl7 k0 k1 k2 k3 k4 k5 k6 m1
        by_cases hz : ce = 0
        · have HE := hid (show t.doPlain q = ((⟨q.cl, q.s, 0, cj, 0, 0⟩, true), { tc with rs := tc.rs.set q.cl ⟨q.cl, q.s, 0, cj, 0, 0⟩ }) by unfold Tb.doPlain; rw [if_pos HRT.out, HXG.out, if_neg (by rw [HTZ.out]; simp), if_neg HNE.out, if_neg (by rw [← hce, hz]; simp), ← hcj, ← htc])
          subst hz
          clear hcj hce htc HCR
          have s2 : w6.cell? ⟨g2, 2, none⟩ = some (.int .i64 0) := (cell_of_row _ _ _ _ _ _ HC2.out).trans rfl
          have zs2 : w6.frozen? ⟨g2, 2, none⟩ = false := frozen_of_row _ _ _ _ _ HC2.out
          have s3 : w6.cell? ⟨g2, 3, none⟩ = some (.int .u32 0) := (cell_of_row _ _ _ _ _ _ HC2.out).trans rfl
          have zs3 : w6.frozen? ⟨g2, 3, none⟩ = false := frozen_of_row _ _ _ _ _ HC2.out
          obtain ⟨w7, hw7⟩ : ∃ z, z = ((w6.setCell ⟨g2, 3, none⟩ (.int .u32 (cj : Int))).setCell ⟨g2, 2, none⟩ (.int .i64 0)) := ⟨_, rfl⟩
          have hk : Keeps (fun k => k = g2) w6 w7 := by rw [hw7]; exact ((kset1 w6 g2 3 (.int .u32 (cj : Int))).trans (kset1 _ g2 2 (.int .i64 0)))
          have HC2 := hid (show w7.heap[g2]? = some (.cells #[.int .u8 (q.cl : Int), .int .u32 (q.s : Int), .int .i64 0, .int .u32 (cj : Int), .int .u8 0, .int .i64 0] 37 (0, 0)) by rw [hw7, (heap_setCell_arrJ _ _ _ _ _ _ _ (heap_setCell_arrJ _ _ _ _ _ _ _ HC2.out))]; simp)
          have HR0 := hid ((hk.block g0 (Array.getElem?_eq_some_iff.1 HR0.out).1 (by have := HGS.out; have := HG7.out; omega)).trans HR0.out)
          have HR1 := hid ((hk.block g1 (Array.getElem?_eq_some_iff.1 HR1.out).1 (by have := HGS.out; have := HG7.out; omega)).trans HR1.out)
          have HX7 := hid ((hk.block g7 (Array.getElem?_eq_some_iff.1 HX7.out).1 (by have := HGS.out; have := HG7.out; omega)).trans HX7.out)
          have HST := hid (show Stp w lo b va vo w7 va' vo' tc by rw [hw7]; exact ((HST.out.set HGS.out.2.2.1 HN2.out).set HGS.out.2.2.1 HN2.out))
          have hszw7 : w7.heap.size = w6.heap.size := by rw [hw7]; simp
          have Hw7 := hid hw7
          clear hk hw7
          have t2 : w7.cell? ⟨g2, 2, none⟩ = some (.int .i64 0) := (cell_of_row _ _ _ _ _ _ HC2.out).trans rfl
          rw [Hw7.out] at t2
          go_upto_region 16 with (fail)
          rw [← Hw7.out]
          clear s2 s3 zs2 zs3 t2
          have HUN := hid (fun (L : Array Bool) (W : World) (hk : Below w7.heap.size w7 W) => show UntilAll [(7, (fun w' => w'.cell? ⟨g0, 0, none⟩ = some (.int .u8 (q.cl : Int)) ∧ w'.cell? ⟨g2, 0, none⟩ = some (.int .u8 (q.cl : Int)) ∧ w'.cell? ⟨g2, 1, none⟩ = some (.int .u32 (q.s : Int)) ∧ w'.cell? ⟨g2, 2, none⟩ = some (.int .i64 0) ∧ w'.cell? ⟨g2, 3, none⟩ = some (.int .u32 (cj : Int)) ∧ w'.cell? ⟨g2, 4, none⟩ = some (.int .u8 0) ∧ w'.cell? ⟨g2, 5, none⟩ = some (.int .i64 0)))] L W from fun c hc _ => by
            rw [List.mem_singleton] at hc
            subst hc
            have h0 := (hk.block g0 (Array.getElem?_eq_some_iff.1 HR0.out).1).trans HR0.out
            have h2 := (hk.block g2 (Array.getElem?_eq_some_iff.1 HC2.out).1).trans HC2.out
            exact ⟨(cell_of_row _ _ _ _ _ _ h0).trans rfl, (cell_of_row _ _ _ _ _ _ h2).trans rfl, (cell_of_row _ _ _ _ _ _ h2).trans rfl, (cell_of_row _ _ _ _ _ _ h2).trans rfl, (cell_of_row _ _ _ _ _ _ h2).trans rfl, (cell_of_row _ _ _ _ _ _ h2).trans rfl, (cell_of_row _ _ _ _ _ _ h2).trans rfl⟩)
          have HK0 := hid (show Below w7.heap.size w7 w7.drew from (Below.refl _ _).drew)
          refine Orders.begins (C := [(7, (fun w' => w'.cell? ⟨g0, 0, none⟩ = some (.int .u8 (q.cl : Int)) ∧ w'.cell? ⟨g2, 0, none⟩ = some (.int .u8 (q.cl : Int)) ∧ w'.cell? ⟨g2, 1, none⟩ = some (.int .u32 (q.s : Int)) ∧ w'.cell? ⟨g2, 2, none⟩ = some (.int .i64 0) ∧ w'.cell? ⟨g2, 3, none⟩ = some (.int .u32 (cj : Int)) ∧ w'.cell? ⟨g2, 4, none⟩ = some (.int .u8 0) ∧ w'.cell? ⟨g2, 5, none⟩ = some (.int .i64 0)))]) (by kernel_rfl) ?_
          refine Orders.take (fun _ => True) [] (i := 0) (v := ?_) rfl (by kernel_rfl) (by kernel_rfl) (by kernel_rfl) (fun _ _ _ h => h) (by kernel_rfl) (fun _ _ _ _ => trivial) (by kernel_rfl) (by kernel_rfl) (Or.inl ⟨by rfl, ?_⟩) (HUN.out _ _ HK0.out) (fun HU => ?_)
          rotate_left
          · intro u hSw
            try dsimp only at hSw
            skip
            go_simp
            try (with_reducible rfl)
          clear HU
          try simp only [Act.put, List.getElem_toArray, List.getElem_cons_succ, List.getElem_cons_zero, List.setIfInBounds_toArray, List.set_cons_zero, List.set_cons_succ]
          refine Orders.take (fun _ => True) [] (i := 1) (v := ?_) rfl (by kernel_rfl) (by kernel_rfl) (by kernel_rfl) (fun _ _ _ h => h) (by kernel_rfl) (fun _ _ _ _ => trivial) (by kernel_rfl) (by kernel_rfl) (Or.inl ⟨by rfl, ?_⟩) (HUN.out _ _ HK0.out) (fun HU => ?_)
          rotate_left
          · intro u hSw
            try dsimp only at hSw
            skip
            go_simp
            try (with_reducible rfl)
          clear HU
          try simp only [Act.put, List.getElem_toArray, List.getElem_cons_succ, List.getElem_cons_zero, List.setIfInBounds_toArray, List.set_cons_zero, List.set_cons_succ]
          refine Orders.take (fun w' => w'.cell? ⟨g0, 0, none⟩ = some (.int .u8 (q.cl : Int)) ∧ w'.cell? ⟨g2, 0, none⟩ = some (.int .u8 (q.cl : Int)) ∧ w'.cell? ⟨g2, 1, none⟩ = some (.int .u32 (q.s : Int)) ∧ w'.cell? ⟨g2, 2, none⟩ = some (.int .i64 0) ∧ w'.cell? ⟨g2, 3, none⟩ = some (.int .u32 (cj : Int)) ∧ w'.cell? ⟨g2, 4, none⟩ = some (.int .u8 0) ∧ w'.cell? ⟨g2, 5, none⟩ = some (.int .i64 0)) [7] (i := 2) (v := ?_) rfl (by kernel_rfl) (by kernel_rfl) (by kernel_rfl) (fun _ _ _ h => h) (by kernel_rfl) (fun L u hd h => h (7, (fun w' => w'.cell? ⟨g0, 0, none⟩ = some (.int .u8 (q.cl : Int)) ∧ w'.cell? ⟨g2, 0, none⟩ = some (.int .u8 (q.cl : Int)) ∧ w'.cell? ⟨g2, 1, none⟩ = some (.int .u32 (q.s : Int)) ∧ w'.cell? ⟨g2, 2, none⟩ = some (.int .i64 0) ∧ w'.cell? ⟨g2, 3, none⟩ = some (.int .u32 (cj : Int)) ∧ w'.cell? ⟨g2, 4, none⟩ = some (.int .u8 0) ∧ w'.cell? ⟨g2, 5, none⟩ = some (.int .i64 0))) (by simp) (hd 7 (by simp))) (by kernel_rfl) (by kernel_rfl) (Or.inl ⟨by rfl, ?_⟩) (HUN.out _ _ HK0.out) (fun HU => ?_)
          rotate_left
          · intro u hSw
            try dsimp only at hSw
            obtain ⟨k0, a0, a1, a2, a3, a4, a5⟩ := hSw
            skip
            go_simp
            try (with_reducible rfl)
          clear HU
          try simp only [Act.put, List.getElem_toArray, List.getElem_cons_succ, List.getElem_cons_zero, List.setIfInBounds_toArray, List.set_cons_zero, List.set_cons_succ]
          refine Orders.take (fun w' => w'.cell? ⟨g0, 0, none⟩ = some (.int .u8 (q.cl : Int)) ∧ w'.cell? ⟨g2, 0, none⟩ = some (.int .u8 (q.cl : Int)) ∧ w'.cell? ⟨g2, 1, none⟩ = some (.int .u32 (q.s : Int)) ∧ w'.cell? ⟨g2, 2, none⟩ = some (.int .i64 0) ∧ w'.cell? ⟨g2, 3, none⟩ = some (.int .u32 (cj : Int)) ∧ w'.cell? ⟨g2, 4, none⟩ = some (.int .u8 0) ∧ w'.cell? ⟨g2, 5, none⟩ = some (.int .i64 0)) [7] (i := 3) (v := ?_) rfl (by kernel_rfl) (by kernel_rfl) (by kernel_rfl) (fun _ _ _ h => h) (by kernel_rfl) (fun L u hd h => h (7, (fun w' => w'.cell? ⟨g0, 0, none⟩ = some (.int .u8 (q.cl : Int)) ∧ w'.cell? ⟨g2, 0, none⟩ = some (.int .u8 (q.cl : Int)) ∧ w'.cell? ⟨g2, 1, none⟩ = some (.int .u32 (q.s : Int)) ∧ w'.cell? ⟨g2, 2, none⟩ = some (.int .i64 0) ∧ w'.cell? ⟨g2, 3, none⟩ = some (.int .u32 (cj : Int)) ∧ w'.cell? ⟨g2, 4, none⟩ = some (.int .u8 0) ∧ w'.cell? ⟨g2, 5, none⟩ = some (.int .i64 0))) (by simp) (hd 7 (by simp))) (by kernel_rfl) (by kernel_rfl) (Or.inl ⟨by rfl, ?_⟩) (HUN.out _ _ HK0.out) (fun HU => ?_)
          rotate_left
          · intro u hSw
            try dsimp only at hSw
            obtain ⟨k0, a0, a1, a2, a3, a4, a5⟩ := hSw
            skip
            go_simp
            try (with_reducible rfl)
          clear HU
          try simp only [Act.put, List.getElem_toArray, List.getElem_cons_succ, List.getElem_cons_zero, List.setIfInBounds_toArray, List.set_cons_zero, List.set_cons_succ]
          refine Orders.take (fun _ => True) [] (i := 4) (v := ?_) rfl (by kernel_rfl) (by kernel_rfl) (by kernel_rfl) (fun _ _ _ h => h) (by kernel_rfl) (fun _ _ _ _ => trivial) (by kernel_rfl) (by kernel_rfl) (Or.inl ⟨by rfl, ?_⟩) (HUN.out _ _ HK0.out) (fun HU => ?_)
          rotate_left
          · intro u hSw
            try dsimp only at hSw
            skip
            go_simp
            try (with_reducible rfl)
          clear HU
          try simp only [Act.put, List.getElem_toArray, List.getElem_cons_succ, List.getElem_cons_zero, List.setIfInBounds_toArray, List.set_cons_zero, List.set_cons_succ]
          refine Orders.take (fun _ => True) [] (i := 5) (v := ?_) rfl (by kernel_rfl) (by kernel_rfl) (by kernel_rfl) (fun _ _ _ h => h) (by kernel_rfl) (fun _ _ _ _ => trivial) (by kernel_rfl) (by kernel_rfl) (Or.inl ⟨by rfl, ?_⟩) (HUN.out _ _ HK0.out) (fun HU => ?_)
          rotate_left
          · intro u hSw
            try dsimp only at hSw
            skip
            go_simp
            try (with_reducible rfl)
          clear HU
          try simp only [Act.put, List.getElem_toArray, List.getElem_cons_succ, List.getElem_cons_zero, List.setIfInBounds_toArray, List.set_cons_zero, List.set_cons_succ]
          refine Orders.take (fun _ => True) [] (i := 6) (v := ?_) rfl (by kernel_rfl) (by kernel_rfl) (by kernel_rfl) (fun _ _ _ h => h) (by kernel_rfl) (fun _ _ _ _ => trivial) (by kernel_rfl) (by kernel_rfl) (Or.inl ⟨by rfl, ?_⟩) (HUN.out _ _ HK0.out) (fun HU => ?_)
          rotate_left
          · intro u hSw
            try dsimp only at hSw
            skip
            go_simp
            try (with_reducible rfl)
          clear HU
          try simp only [Act.put, List.getElem_toArray, List.getElem_cons_succ, List.getElem_cons_zero, List.setIfInBounds_toArray, List.set_cons_zero, List.set_cons_succ]
          obtain ⟨y, hy⟩ : ∃ y, tc.rs[q.cl]? = some y := ⟨_, List.getElem?_eq_getElem (by have := HST.out.tb.r8; omega)⟩
          have htd : TbAt w7.drew lo b va' vo' tc := HST.out.tb.below (Below.refl _ _).drew
          have hb0 : w7.heap[b]? = some (.cells (tcel tc va' vo').toArray 58 (0, 0)) := HST.out.tb.blk
          have hz0 : (tcel tc va' vo').toArray.size = 52 := by
            have h1 := rcels_len tc.rs
            have h2 := HST.out.tb.r8
            simp [tcel, h1, h2]
          obtain ⟨u0, n0⟩ := cell_exJ (w := w7.drew) (o := 4 + q.cl * 6) hb0 (by rw [hz0]; omega)
          have zn0 : w7.drew.frozen? ⟨b, 4 + q.cl * 6, none⟩ = false := frozen_of_row _ _ _ _ _ hb0
          have hb1 : (w7.setCell ⟨b, 4 + q.cl * 6, none⟩ (.int .u8 (q.cl : Int))).heap[b]? = some (.cells ((tcel tc va' vo').toArray.setIfInBounds (4 + q.cl * 6) (.int .u8 (q.cl : Int))) 58 (0, 0)) := heap_setCell_arrJ _ _ _ _ _ _ _ hb0
          have hz1 : ((tcel tc va' vo').toArray.setIfInBounds (4 + q.cl * 6) (.int .u8 (q.cl : Int))).size = 52 := by rw [Array.size_setIfInBounds]; exact hz0
          obtain ⟨u1, n1⟩ := cell_exJ (w := (w7.setCell ⟨b, 4 + q.cl * 6, none⟩ (.int .u8 (q.cl : Int))).drew) (o := 4 + q.cl * 6 + 1) hb1 (by rw [hz1]; omega)
          have zn1 : (w7.setCell ⟨b, 4 + q.cl * 6, none⟩ (.int .u8 (q.cl : Int))).drew.frozen? ⟨b, 4 + q.cl * 6 + 1, none⟩ = false := frozen_of_row _ _ _ _ _ hb1
          have hb2 : ((w7.setCell ⟨b, 4 + q.cl * 6, none⟩ (.int .u8 (q.cl : Int))).setCell ⟨b, 4 + q.cl * 6 + 1, none⟩ (.int .u32 (q.s : Int))).heap[b]? = some (.cells (((tcel tc va' vo').toArray.setIfInBounds (4 + q.cl * 6) (.int .u8 (q.cl : Int))).setIfInBounds (4 + q.cl * 6 + 1) (.int .u32 (q.s : Int))) 58 (0, 0)) := heap_setCell_arrJ _ _ _ _ _ _ _ hb1
          have hz2 : (((tcel tc va' vo').toArray.setIfInBounds (4 + q.cl * 6) (.int .u8 (q.cl : Int))).setIfInBounds (4 + q.cl * 6 + 1) (.int .u32 (q.s : Int))).size = 52 := by rw [Array.size_setIfInBounds]; exact hz1
          obtain ⟨u2, n2⟩ := cell_exJ (w := ((w7.setCell ⟨b, 4 + q.cl * 6, none⟩ (.int .u8 (q.cl : Int))).setCell ⟨b, 4 + q.cl * 6 + 1, none⟩ (.int .u32 (q.s : Int))).drew) (o := 4 + q.cl * 6 + 2) hb2 (by rw [hz2]; omega)
          have zn2 : ((w7.setCell ⟨b, 4 + q.cl * 6, none⟩ (.int .u8 (q.cl : Int))).setCell ⟨b, 4 + q.cl * 6 + 1, none⟩ (.int .u32 (q.s : Int))).drew.frozen? ⟨b, 4 + q.cl * 6 + 2, none⟩ = false := frozen_of_row _ _ _ _ _ hb2
          have hb3 : (((w7.setCell ⟨b, 4 + q.cl * 6, none⟩ (.int .u8 (q.cl : Int))).setCell ⟨b, 4 + q.cl * 6 + 1, none⟩ (.int .u32 (q.s : Int))).setCell ⟨b, 4 + q.cl * 6 + 2, none⟩ (.int .i64 0)).heap[b]? = some (.cells ((((tcel tc va' vo').toArray.setIfInBounds (4 + q.cl * 6) (.int .u8 (q.cl : Int))).setIfInBounds (4 + q.cl * 6 + 1) (.int .u32 (q.s : Int))).setIfInBounds (4 + q.cl * 6 + 2) (.int .i64 0)) 58 (0, 0)) := heap_setCell_arrJ _ _ _ _ _ _ _ hb2
          have hz3 : ((((tcel tc va' vo').toArray.setIfInBounds (4 + q.cl * 6) (.int .u8 (q.cl : Int))).setIfInBounds (4 + q.cl * 6 + 1) (.int .u32 (q.s : Int))).setIfInBounds (4 + q.cl * 6 + 2) (.int .i64 0)).size = 52 := by rw [Array.size_setIfInBounds]; exact hz2
          obtain ⟨u3, n3⟩ := cell_exJ (w := (((w7.setCell ⟨b, 4 + q.cl * 6, none⟩ (.int .u8 (q.cl : Int))).setCell ⟨b, 4 + q.cl * 6 + 1, none⟩ (.int .u32 (q.s : Int))).setCell ⟨b, 4 + q.cl * 6 + 2, none⟩ (.int .i64 0)).drew) (o := 4 + q.cl * 6 + 3) hb3 (by rw [hz3]; omega)
          have zn3 : (((w7.setCell ⟨b, 4 + q.cl * 6, none⟩ (.int .u8 (q.cl : Int))).setCell ⟨b, 4 + q.cl * 6 + 1, none⟩ (.int .u32 (q.s : Int))).setCell ⟨b, 4 + q.cl * 6 + 2, none⟩ (.int .i64 0)).drew.frozen? ⟨b, 4 + q.cl * 6 + 3, none⟩ = false := frozen_of_row _ _ _ _ _ hb3
          have hb4 : ((((w7.setCell ⟨b, 4 + q.cl * 6, none⟩ (.int .u8 (q.cl : Int))).setCell ⟨b, 4 + q.cl * 6 + 1, none⟩ (.int .u32 (q.s : Int))).setCell ⟨b, 4 + q.cl * 6 + 2, none⟩ (.int .i64 0)).setCell ⟨b, 4 + q.cl * 6 + 3, none⟩ (.int .u32 (cj : Int))).heap[b]? = some (.cells (((((tcel tc va' vo').toArray.setIfInBounds (4 + q.cl * 6) (.int .u8 (q.cl : Int))).setIfInBounds (4 + q.cl * 6 + 1) (.int .u32 (q.s : Int))).setIfInBounds (4 + q.cl * 6 + 2) (.int .i64 0)).setIfInBounds (4 + q.cl * 6 + 3) (.int .u32 (cj : Int))) 58 (0, 0)) := heap_setCell_arrJ _ _ _ _ _ _ _ hb3
          have hz4 : (((((tcel tc va' vo').toArray.setIfInBounds (4 + q.cl * 6) (.int .u8 (q.cl : Int))).setIfInBounds (4 + q.cl * 6 + 1) (.int .u32 (q.s : Int))).setIfInBounds (4 + q.cl * 6 + 2) (.int .i64 0)).setIfInBounds (4 + q.cl * 6 + 3) (.int .u32 (cj : Int))).size = 52 := by rw [Array.size_setIfInBounds]; exact hz3
          obtain ⟨u4, n4⟩ := cell_exJ (w := ((((w7.setCell ⟨b, 4 + q.cl * 6, none⟩ (.int .u8 (q.cl : Int))).setCell ⟨b, 4 + q.cl * 6 + 1, none⟩ (.int .u32 (q.s : Int))).setCell ⟨b, 4 + q.cl * 6 + 2, none⟩ (.int .i64 0)).setCell ⟨b, 4 + q.cl * 6 + 3, none⟩ (.int .u32 (cj : Int))).drew) (o := 4 + q.cl * 6 + 4) hb4 (by rw [hz4]; omega)
          have zn4 : ((((w7.setCell ⟨b, 4 + q.cl * 6, none⟩ (.int .u8 (q.cl : Int))).setCell ⟨b, 4 + q.cl * 6 + 1, none⟩ (.int .u32 (q.s : Int))).setCell ⟨b, 4 + q.cl * 6 + 2, none⟩ (.int .i64 0)).setCell ⟨b, 4 + q.cl * 6 + 3, none⟩ (.int .u32 (cj : Int))).drew.frozen? ⟨b, 4 + q.cl * 6 + 4, none⟩ = false := frozen_of_row _ _ _ _ _ hb4
          have hb5 : (((((w7.setCell ⟨b, 4 + q.cl * 6, none⟩ (.int .u8 (q.cl : Int))).setCell ⟨b, 4 + q.cl * 6 + 1, none⟩ (.int .u32 (q.s : Int))).setCell ⟨b, 4 + q.cl * 6 + 2, none⟩ (.int .i64 0)).setCell ⟨b, 4 + q.cl * 6 + 3, none⟩ (.int .u32 (cj : Int))).setCell ⟨b, 4 + q.cl * 6 + 4, none⟩ (.int .u8 0)).heap[b]? = some (.cells ((((((tcel tc va' vo').toArray.setIfInBounds (4 + q.cl * 6) (.int .u8 (q.cl : Int))).setIfInBounds (4 + q.cl * 6 + 1) (.int .u32 (q.s : Int))).setIfInBounds (4 + q.cl * 6 + 2) (.int .i64 0)).setIfInBounds (4 + q.cl * 6 + 3) (.int .u32 (cj : Int))).setIfInBounds (4 + q.cl * 6 + 4) (.int .u8 0)) 58 (0, 0)) := heap_setCell_arrJ _ _ _ _ _ _ _ hb4
          have hz5 : ((((((tcel tc va' vo').toArray.setIfInBounds (4 + q.cl * 6) (.int .u8 (q.cl : Int))).setIfInBounds (4 + q.cl * 6 + 1) (.int .u32 (q.s : Int))).setIfInBounds (4 + q.cl * 6 + 2) (.int .i64 0)).setIfInBounds (4 + q.cl * 6 + 3) (.int .u32 (cj : Int))).setIfInBounds (4 + q.cl * 6 + 4) (.int .u8 0)).size = 52 := by rw [Array.size_setIfInBounds]; exact hz4
          obtain ⟨u5, n5⟩ := cell_exJ (w := (((((w7.setCell ⟨b, 4 + q.cl * 6, none⟩ (.int .u8 (q.cl : Int))).setCell ⟨b, 4 + q.cl * 6 + 1, none⟩ (.int .u32 (q.s : Int))).setCell ⟨b, 4 + q.cl * 6 + 2, none⟩ (.int .i64 0)).setCell ⟨b, 4 + q.cl * 6 + 3, none⟩ (.int .u32 (cj : Int))).setCell ⟨b, 4 + q.cl * 6 + 4, none⟩ (.int .u8 0)).drew) (o := 4 + q.cl * 6 + 5) hb5 (by rw [hz5]; omega)
          have zn5 : (((((w7.setCell ⟨b, 4 + q.cl * 6, none⟩ (.int .u8 (q.cl : Int))).setCell ⟨b, 4 + q.cl * 6 + 1, none⟩ (.int .u32 (q.s : Int))).setCell ⟨b, 4 + q.cl * 6 + 2, none⟩ (.int .i64 0)).setCell ⟨b, 4 + q.cl * 6 + 3, none⟩ (.int .u32 (cj : Int))).setCell ⟨b, 4 + q.cl * 6 + 4, none⟩ (.int .u8 0)).drew.frozen? ⟨b, 4 + q.cl * 6 + 5, none⟩ = false := frozen_of_row _ _ _ _ _ hb5
          clear hb0 hb1 hb2 hb3 hb4 hb5 hz0 hz1 hz2 hz3 hz4 hz5
          clear hy htd
          refine Orders.one (i := 7) (by kernel_rfl) rfl (fun K hK => ?_)
          try simp only [Act.put, List.getElem_toArray, List.getElem_cons_succ, List.getElem_cons_zero, List.setIfInBounds_toArray, List.set_cons_zero, List.set_cons_succ]
          go_simp
          refine hK.out _ _ ?_ (fun HU => ?_)
          · intro c hc hl
            rw [List.mem_singleton] at hc
            subst hc
            exact absurd hl (fun h => Bool.noConfusion (h.symm.trans (by kernel_rfl : _ = true)))
          clear hK K HU
          try simp only [Act.put, List.getElem_toArray, List.getElem_cons_succ, List.getElem_cons_zero, List.setIfInBounds_toArray, List.set_cons_zero, List.set_cons_succ]
          refine Orders.ends (by kernel_rfl) ?_ _
          obtain ⟨w8, hw8⟩ : ∃ z, z = (((((((w7.setCell ⟨b, 4 + q.cl * 6, none⟩ (.int .u8 (q.cl : Int))).setCell ⟨b, 4 + q.cl * 6 + 1, none⟩ (.int .u32 (q.s : Int))).setCell ⟨b, 4 + q.cl * 6 + 2, none⟩ (.int .i64 0)).setCell ⟨b, 4 + q.cl * 6 + 3, none⟩ (.int .u32 (cj : Int))).setCell ⟨b, 4 + q.cl * 6 + 4, none⟩ (.int .u8 0)).setCell ⟨b, 4 + q.cl * 6 + 5, none⟩ (.int .i64 0))).drew := ⟨_, rfl⟩
          have hk8 : Keeps (fun k => k = b) w7 w8 := by rw [hw8]; exact (setR_keeps w7 b (4 + q.cl * 6) ⟨q.cl, q.s, 0, cj, 0, 0⟩).drew
          have ht8 : TbAt w8 lo b va' vo' { tc with rs := tc.rs.set q.cl ⟨q.cl, q.s, 0, cj, 0, 0⟩ } := by rw [hw8]; exact (HST.out.tb.putRep hcl ⟨q.cl, q.s, 0, cj, 0, 0⟩).below (Below.refl _ _).drew
          have HS8 := hid (HST.out.trans (Stp.mk ht8 (hk8.mono fun k _ e => .inl e) (fun k e => .inl e) (fun k e => .inl e)))
          have HR1 := hid ((hk8.block g1 (Array.getElem?_eq_some_iff.1 HR1.out).1 (fun e => HN1.out (.inl e))).trans HR1.out)
          have HC2 := hid ((hk8.block g2 (Array.getElem?_eq_some_iff.1 HC2.out).1 (fun e => HN2.out (.inl e))).trans HC2.out)
          rw [← hw8]
          clear hw8 hk8 ht8 n0 n1 n2 n3 n4 n5 zn0 zn1 zn2 zn3 zn4 zn5
          have p0 : w8.cell? ⟨g2, 0, none⟩ = some (.int .u8 (q.cl : Int)) := (cell_of_row _ _ _ _ _ _ HC2.out).trans rfl
          have p1 : w8.cell? ⟨g2, 1, none⟩ = some (.int .u32 (q.s : Int)) := (cell_of_row _ _ _ _ _ _ HC2.out).trans rfl
          have p2 : w8.cell? ⟨g2, 2, none⟩ = some (.int .i64 0) := (cell_of_row _ _ _ _ _ _ HC2.out).trans rfl
          have p3 : w8.cell? ⟨g2, 3, none⟩ = some (.int .u32 (cj : Int)) := (cell_of_row _ _ _ _ _ _ HC2.out).trans rfl
          have p4 : w8.cell? ⟨g2, 4, none⟩ = some (.int .u8 0) := (cell_of_row _ _ _ _ _ _ HC2.out).trans rfl
          have p5 : w8.cell? ⟨g2, 5, none⟩ = some (.int .i64 0) := (cell_of_row _ _ _ _ _ _ HC2.out).trans rfl
          have r0 : w8.cell? ⟨g1, 0, none⟩ = some (.int .u8 0) := (cell_of_row _ _ _ _ _ _ HR1.out).trans rfl
          have zr0 : w8.frozen? ⟨g1, 0, none⟩ = false := frozen_of_row _ _ _ _ _ HR1.out
          have r1 : w8.cell? ⟨g1, 1, none⟩ = some (.int .u32 0) := (cell_of_row _ _ _ _ _ _ HR1.out).trans rfl
          have zr1 : w8.frozen? ⟨g1, 1, none⟩ = false := frozen_of_row _ _ _ _ _ HR1.out
          have r2 : w8.cell? ⟨g1, 2, none⟩ = some (.int .i64 0) := (cell_of_row _ _ _ _ _ _ HR1.out).trans rfl
          have zr2 : w8.frozen? ⟨g1, 2, none⟩ = false := frozen_of_row _ _ _ _ _ HR1.out
          have r3 : w8.cell? ⟨g1, 3, none⟩ = some (.int .u32 0) := (cell_of_row _ _ _ _ _ _ HR1.out).trans rfl
          have zr3 : w8.frozen? ⟨g1, 3, none⟩ = false := frozen_of_row _ _ _ _ _ HR1.out
          have r4 : w8.cell? ⟨g1, 4, none⟩ = some (.int .u8 0) := (cell_of_row _ _ _ _ _ _ HR1.out).trans rfl
          have zr4 : w8.frozen? ⟨g1, 4, none⟩ = false := frozen_of_row _ _ _ _ _ HR1.out
          have r5 : w8.cell? ⟨g1, 5, none⟩ = some (.int .i64 0) := (cell_of_row _ _ _ _ _ _ HR1.out).trans rfl
          have zr5 : w8.frozen? ⟨g1, 5, none⟩ = false := frozen_of_row _ _ _ _ _ HR1.out
          go_wp2_with fail
          refine bodyPost_ret (results_cellJ rfl _ _ _ g1 37 _ (0, 0) _ rfl rfl (set6_heap HR1.out) Try.underlying37 (by kernel_rfl)) rfl ?_
          exact ⟨by rw [HE.out]; rfl, _, _, by rw [HE.out]; exact Stp.setR (r := ⟨q.cl, q.s, 0, cj, 0, 0⟩) (o := 0) HS8.out HGS.out.2.1 HN1.out⟩
        · have HE := hid (show t.doPlain q = ((⟨q.cl, q.s, ce, cj, 0, 0⟩, false), tc) by unfold Tb.doPlain; rw [if_pos HRT.out, HXG.out, if_neg (by rw [HTZ.out]; simp), if_neg HNE.out, if_pos (by rw [← hce]; exact hz), ← hcj, ← hce, ← htc])
          have de1 : (ce == 0) = false := by rw [beq_eq_false_iff_ne]; exact hz
          have de2 : (ce != 0) = true := by rw [bne_iff_ne]; exact hz
          clear hz hcj hce htc HCR
          have s2 : w6.cell? ⟨g2, 2, none⟩ = some (.int .i64 0) := (cell_of_row _ _ _ _ _ _ HC2.out).trans rfl
          have zs2 : w6.frozen? ⟨g2, 2, none⟩ = false := frozen_of_row _ _ _ _ _ HC2.out
          have s3 : w6.cell? ⟨g2, 3, none⟩ = some (.int .u32 0) := (cell_of_row _ _ _ _ _ _ HC2.out).trans rfl
          have zs3 : w6.frozen? ⟨g2, 3, none⟩ = false := frozen_of_row _ _ _ _ _ HC2.out
          obtain ⟨w7, hw7⟩ : ∃ z, z = ((w6.setCell ⟨g2, 3, none⟩ (.int .u32 (cj : Int))).setCell ⟨g2, 2, none⟩ (.int .i64 ce)) := ⟨_, rfl⟩
          have hk : Keeps (fun k => k = g2) w6 w7 := by rw [hw7]; exact ((kset1 w6 g2 3 (.int .u32 (cj : Int))).trans (kset1 _ g2 2 (.int .i64 ce)))
          have HC2 := hid (show w7.heap[g2]? = some (.cells #[.int .u8 (q.cl : Int), .int .u32 (q.s : Int), .int .i64 ce, .int .u32 (cj : Int), .int .u8 0, .int .i64 0] 37 (0, 0)) by rw [hw7, (heap_setCell_arrJ _ _ _ _ _ _ _ (heap_setCell_arrJ _ _ _ _ _ _ _ HC2.out))]; simp)
          have HR0 := hid ((hk.block g0 (Array.getElem?_eq_some_iff.1 HR0.out).1 (by have := HGS.out; have := HG7.out; omega)).trans HR0.out)
          have HR1 := hid ((hk.block g1 (Array.getElem?_eq_some_iff.1 HR1.out).1 (by have := HGS.out; have := HG7.out; omega)).trans HR1.out)
          have HX7 := hid ((hk.block g7 (Array.getElem?_eq_some_iff.1 HX7.out).1 (by have := HGS.out; have := HG7.out; omega)).trans HX7.out)
          have HST := hid (show Stp w lo b va vo w7 va' vo' tc by rw [hw7]; exact ((HST.out.set HGS.out.2.2.1 HN2.out).set HGS.out.2.2.1 HN2.out))
          have hszw7 : w7.heap.size = w6.heap.size := by rw [hw7]; simp
          have Hw7 := hid hw7
          clear hk hw7
          have t2 : w7.cell? ⟨g2, 2, none⟩ = some (.int .i64 ce) := (cell_of_row _ _ _ _ _ _ HC2.out).trans rfl
          rw [Hw7.out] at t2
          go_upto_region 15 with (fail)
          rw [← Hw7.out]
          clear s2 s3 zs2 zs3 t2
          have p0 : w7.cell? ⟨g2, 0, none⟩ = some (.int .u8 (q.cl : Int)) := (cell_of_row _ _ _ _ _ _ HC2.out).trans rfl
          have p1 : w7.cell? ⟨g2, 1, none⟩ = some (.int .u32 (q.s : Int)) := (cell_of_row _ _ _ _ _ _ HC2.out).trans rfl
          have p2 : w7.cell? ⟨g2, 2, none⟩ = some (.int .i64 ce) := (cell_of_row _ _ _ _ _ _ HC2.out).trans rfl
          have p3 : w7.cell? ⟨g2, 3, none⟩ = some (.int .u32 (cj : Int)) := (cell_of_row _ _ _ _ _ _ HC2.out).trans rfl
          have p4 : w7.cell? ⟨g2, 4, none⟩ = some (.int .u8 0) := (cell_of_row _ _ _ _ _ _ HC2.out).trans rfl
          have p5 : w7.cell? ⟨g2, 5, none⟩ = some (.int .i64 0) := (cell_of_row _ _ _ _ _ _ HC2.out).trans rfl
          have r0 : w7.cell? ⟨g1, 0, none⟩ = some (.int .u8 0) := (cell_of_row _ _ _ _ _ _ HR1.out).trans rfl
          have zr0 : w7.frozen? ⟨g1, 0, none⟩ = false := frozen_of_row _ _ _ _ _ HR1.out
          have r1 : w7.cell? ⟨g1, 1, none⟩ = some (.int .u32 0) := (cell_of_row _ _ _ _ _ _ HR1.out).trans rfl
          have zr1 : w7.frozen? ⟨g1, 1, none⟩ = false := frozen_of_row _ _ _ _ _ HR1.out
          have r2 : w7.cell? ⟨g1, 2, none⟩ = some (.int .i64 0) := (cell_of_row _ _ _ _ _ _ HR1.out).trans rfl
          have zr2 : w7.frozen? ⟨g1, 2, none⟩ = false := frozen_of_row _ _ _ _ _ HR1.out
          have r3 : w7.cell? ⟨g1, 3, none⟩ = some (.int .u32 0) := (cell_of_row _ _ _ _ _ _ HR1.out).trans rfl
          have zr3 : w7.frozen? ⟨g1, 3, none⟩ = false := frozen_of_row _ _ _ _ _ HR1.out
          have r4 : w7.cell? ⟨g1, 4, none⟩ = some (.int .u8 0) := (cell_of_row _ _ _ _ _ _ HR1.out).trans rfl
          have zr4 : w7.frozen? ⟨g1, 4, none⟩ = false := frozen_of_row _ _ _ _ _ HR1.out
          have r5 : w7.cell? ⟨g1, 5, none⟩ = some (.int .i64 0) := (cell_of_row _ _ _ _ _ _ HR1.out).trans rfl
          have zr5 : w7.frozen? ⟨g1, 5, none⟩ = false := frozen_of_row _ _ _ _ _ HR1.out
          go_wp2_with fail
          refine bodyPost_ret (results_cellJ rfl _ _ _ g1 37 _ (0, 0) _ rfl rfl (set6_heap HR1.out) Try.underlying37 (by kernel_rfl)) rfl ?_
          exact ⟨by rw [HE.out]; rfl, _, _, by rw [HE.out]; exact Stp.setR (r := ⟨q.cl, q.s, ce, cj, 0, 0⟩) (o := 0) HST.out HGS.out.2.1 HN1.out⟩
    · obtain ⟨e1, he1⟩ : ∃ e, e = turn q.s x.s := ⟨_, rfl⟩
      have HE := hid (show t.doPlain q = ((⟨q.cl, q.s, e1, 0, 0, 0⟩, false), t) by unfold Tb.doPlain; rw [if_pos HRT.out, HXG.out, if_pos htu, he1])
      rw [← he1] at HTU htu
      have de1 : (e1 == 0) = false := by rw [beq_eq_false_iff_ne]; exact htu
      have de2 : (e1 != 0) = true := by rw [bne_iff_ne]; exact htu
      clear he1 htu
      go_wp2_with fail
      refine HTU.out.mono ?_
      rintro e w4' ⟨rfl, rfl⟩
      obtain ⟨w5, hw5⟩ : ∃ z, z = (w4.setCell ⟨g2, 2, none⟩ (.int .i64 e1)) := ⟨_, rfl⟩
      have hk : Keeps (fun k => k = g2) w4 w5 := by rw [hw5]; exact (kset1 w4 g2 2 (.int .i64 e1))
      have HC2 := hid (show w5.heap[g2]? = some (.cells #[.int .u8 (q.cl : Int), .int .u32 (q.s : Int), .int .i64 e1, .int .u32 0, .int .u8 0, .int .i64 0] 37 (0, 0)) by rw [hw5, (heap_setCell_arrJ _ _ _ _ _ _ _ HC2.out)]; simp)
      have HR0 := hid ((hk.block g0 (Array.getElem?_eq_some_iff.1 HR0.out).1 (by have := HGS.out; have := HG7.out; omega)).trans HR0.out)
      have HR1 := hid ((hk.block g1 (Array.getElem?_eq_some_iff.1 HR1.out).1 (by have := HGS.out; have := HG7.out; omega)).trans HR1.out)
      have HX7 := hid ((hk.block g7 (Array.getElem?_eq_some_iff.1 HX7.out).1 (by have := HGS.out; have := HG7.out; omega)).trans HX7.out)
      have HST := hid (show Stp w lo b va vo w5 va vo t by rw [hw5]; exact (HST.out.set HGS.out.2.2.1 HN2.out))
      have hszw5 : w5.heap.size = w4.heap.size := by rw [hw5]; simp
      have Hw5 := hid hw5
      clear hk hw5
      have t2 : w5.cell? ⟨g2, 2, none⟩ = some (.int .i64 e1) := (cell_of_row _ _ _ _ _ _ HC2.out).trans rfl
      rw [Hw5.out] at t2
      go_upto_region 10 with (fail)
      rw [← Hw5.out]
      clear k1 m1 s2 zs2 t2
      have p0 : w5.cell? ⟨g2, 0, none⟩ = some (.int .u8 (q.cl : Int)) := (cell_of_row _ _ _ _ _ _ HC2.out).trans rfl
      have p1 : w5.cell? ⟨g2, 1, none⟩ = some (.int .u32 (q.s : Int)) := (cell_of_row _ _ _ _ _ _ HC2.out).trans rfl
      have p2 : w5.cell? ⟨g2, 2, none⟩ = some (.int .i64 e1) := (cell_of_row _ _ _ _ _ _ HC2.out).trans rfl
      have p3 : w5.cell? ⟨g2, 3, none⟩ = some (.int .u32 0) := (cell_of_row _ _ _ _ _ _ HC2.out).trans rfl
      have p4 : w5.cell? ⟨g2, 4, none⟩ = some (.int .u8 0) := (cell_of_row _ _ _ _ _ _ HC2.out).trans rfl
      have p5 : w5.cell? ⟨g2, 5, none⟩ = some (.int .i64 0) := (cell_of_row _ _ _ _ _ _ HC2.out).trans rfl
      have r0 : w5.cell? ⟨g1, 0, none⟩ = some (.int .u8 0) := (cell_of_row _ _ _ _ _ _ HR1.out).trans rfl
      have zr0 : w5.frozen? ⟨g1, 0, none⟩ = false := frozen_of_row _ _ _ _ _ HR1.out
      have r1 : w5.cell? ⟨g1, 1, none⟩ = some (.int .u32 0) := (cell_of_row _ _ _ _ _ _ HR1.out).trans rfl
      have zr1 : w5.frozen? ⟨g1, 1, none⟩ = false := frozen_of_row _ _ _ _ _ HR1.out
      have r2 : w5.cell? ⟨g1, 2, none⟩ = some (.int .i64 0) := (cell_of_row _ _ _ _ _ _ HR1.out).trans rfl
      have zr2 : w5.frozen? ⟨g1, 2, none⟩ = false := frozen_of_row _ _ _ _ _ HR1.out
      have r3 : w5.cell? ⟨g1, 3, none⟩ = some (.int .u32 0) := (cell_of_row _ _ _ _ _ _ HR1.out).trans rfl
      have zr3 : w5.frozen? ⟨g1, 3, none⟩ = false := frozen_of_row _ _ _ _ _ HR1.out
      have r4 : w5.cell? ⟨g1, 4, none⟩ = some (.int .u8 0) := (cell_of_row _ _ _ _ _ _ HR1.out).trans rfl
      have zr4 : w5.frozen? ⟨g1, 4, none⟩ = false := frozen_of_row _ _ _ _ _ HR1.out
      have r5 : w5.cell? ⟨g1, 5, none⟩ = some (.int .i64 0) := (cell_of_row _ _ _ _ _ _ HR1.out).trans rfl
      have zr5 : w5.frozen? ⟨g1, 5, none⟩ = false := frozen_of_row _ _ _ _ _ HR1.out
      go_wp2_with fail
      refine bodyPost_ret (results_cellJ rfl _ _ _ g1 37 _ (0, 0) _ rfl rfl (set6_heap HR1.out) Try.underlying37 (by kernel_rfl)) rfl ?_
      exact ⟨by rw [HE.out]; rfl, _, _, by rw [HE.out]; exact Stp.setR (r := ⟨q.cl, q.s, e1, 0, 0, 0⟩) (o := 0) HST.out HGS.out.2.1 HN1.out⟩

end Go.Proofs.Ytahiaifdfgkemaa
