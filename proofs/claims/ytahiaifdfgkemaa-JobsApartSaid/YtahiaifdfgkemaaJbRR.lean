/-
  Layer 16: the law's example.
  A table's bytes.
  A table's bytes, whole.
  Two rows of jobs that are the same; a request that came in; what is refused, plainly.
-/
import Derived.Test.YtahiaifdfgkemaaJbG
import Derived.Deep.Cut
import Derived.Test.YtahiaifdfgkemaaJbQ
import Derived.Deep.MidRow
import Derived.Test.YtahiaifdfgkemaaJbOO
import Derived.BigQuiet
import Derived.Deep.Slices
import Derived.OpenShut
import Derived.ChangeSlices
namespace Go.Proofs.Ytahiaifdfgkemaa
open Go.RowKit
set_option linter.unusedVariables false
set_option linter.unusedSimpArgs false

theorem Stp.apart {w w' : World} {lo b : Nat} {va vo va' vo' : Value} {t' : Tb} (h : Stp w lo b va vo w' va' vo' t') {g : Nat} (hg : g < w.heap.size) (hn : ¬ Tk b va vo g) : ¬ Tk b va' vo' g := by
  rintro (e | e | e)
  · exact hn (.inl e)
  · rcases h.na g e with e | e
    · exact hn (.inr (.inl e))
    · omega
  · rcases h.no g e with e | e
    · exact hn (.inr (.inr e))
    · omega
/-- A block aside of a table stays. -/
theorem Stp.aside {w w' : World} {lo b : Nat} {va vo va' vo' : Value} {t' : Tb} (h : Stp w lo b va vo w' va' vo' t') {g : Nat} {o : Obj} (hg : w.heap[g]? = some o) (hn : ¬ Tk b va vo g) : w'.heap[g]? = some o := (h.k.block g (Array.getElem?_eq_some_iff.1 hg).1 hn).trans hg
theorem do_at (w : World) (lo b : Nat) (va vo : Value) (t : Tb) (q : Note.Q) (h : TbAt w lo b va vo t) (hv : t.over.length ≤ 64) (hl : t.last < 100000) (hq : q.wf) (hk3 : q.k ≠ 3) {r : Note.R} {ok : Bool} {t' : Tb} (e : t.doPlain q = ((r, ok), t')) :
    Calls Try.prog 9 #[.pointer (some ⟨b, 0, none⟩), .agg #[.int .u8 (q.cl : Int), .int .u32 (q.s : Int), .int .u8 (q.k : Int), .int .u8 (q.t : Int), .int .i64 q.kk, .int .i64 q.w, .int .u32 (q.j : Int)]] w fun e w' => e = .returned (.tuple #[rv r, .bool ok]) ∧ ∃ va' vo', Stp w lo b va vo w' va' vo' t' := by
  have h1 := doplain_any w lo b va vo t q h hv hl (by have := h.lt; have := h.lob; omega) hq hk3
  rw [e] at h1
  exact h1

def subQ (s : Nat) : Note.Q := ⟨0, s, 1, 1, 2, 5, 0⟩
set_option maxRecDepth 100000 in
set_option maxHeartbeats 1000000 in
theorem lawsubmit_any (s : Nat) (w : World) :
    Calls Try.prog 18 #[.int .u32 (s : Int)] w fun e w' => e = .returned (.agg #[.int .u8 0, .int .u32 (s : Int), .int .u8 1, .int .u8 1, .int .i64 2, .int .i64 5, .int .u32 0]) ∧ Below w.heap.size w w' := by
  go_enter Try.func18, Try.ntmps18
  go_wp2_with fail
  refine bodyPost_ret (results_cell_row (P := Try.prog) rfl _ _ w.heap.size 33 _ (0, 0) _ rfl (heap_alloc_new w _) Try.underlying33 rfl (by kernel_rfl)) rfl ?_
  exact ⟨rfl, (Below.refl _ _).alloc (Nat.le_refl _) _⟩

def awT : Tb := { newTb 4 with last := 1, act := [(1, 1, 2, 5, 0, 0)], rs := (newTb 4).rs.set 0 ⟨0, 1, 0, 1, 0, 0⟩ }
theorem aw_1 : (newTb 4).doPlain (subQ 1) = ((⟨0, 1, 0, 1, 0, 0⟩, true), awT) := by kernel_rfl
theorem aw_2 : awT.doPlain (subQ 1) = ((⟨0, 1, 0, 1, 0, 0⟩, false), awT) := by kernel_rfl
theorem aw_3 : awT.doPlain (subQ 3) = ((⟨0, 3, 11, 0, 0, 0⟩, false), awT) := by kernel_rfl

set_option maxRecDepth 100000 in
set_option maxHeartbeats 4000000 in
theorem awake16_any (w : World) : Calls Try.prog 6 #[] w fun e w' => e = .returned (.bool true) ∧ Below w.heap.size w w' := by
  go_enter Try.func6, Try.ntmps6
  go_wp2_with fail
  refine (jnew_any 4 w (by omega) (by omega)).mono ?_
  rintro e w0 ⟨rfl, ht, hb⟩
  obtain ⟨b, hbb⟩ : ∃ b, b = w.heap.size := ⟨_, rfl⟩
  have HLO := hid (show w.heap.size ≤ b by omega)
  rw [← hbb] at ht
  simp only [← hbb]
  have HT0 := hid ht
  have HB := hid hb
  clear ht hb hbb
  go_wp2_with fail
  refine (lawsubmit_any 1 w0).mono ?_
  rintro e y1 ⟨rfl, hb⟩
  have HT := hid (HT0.out.below hb)
  have HB := hid (HB.out.trans (hb.mono HB.out.size))
  clear hb
  have HD := hid (show Calls Try.prog 9 #[.pointer (some ⟨b, 0, none⟩), .agg #[.int .u8 0, .int .u32 1, .int .u8 1, .int .u8 1, .int .i64 2, .int .i64 5, .int .u32 0]] y1 fun e w' => e = .returned (.tuple #[.agg #[.int .u8 0, .int .u32 1, .int .i64 0, .int .u32 1, .int .u8 0, .int .i64 0], .bool true]) ∧ ∃ va' vo', Stp y1 b b (.slice none 0 0) (.slice none 0 0) w' va' vo' awT from do_at y1 b b (.slice none 0 0) (.slice none 0 0) (newTb 4) (subQ 1) HT.out (by decide) (by decide) (by unfold Note.Q.wf subQ; simp) (by decide) aw_1)
  go_wp2_with fail
  refine HD.out.mono ?_
  rintro e z1 ⟨rfl, va1, vo1, hs⟩
  have HB := hid (hs.bel HT.out HB.out HLO.out HB.out.size)
  obtain ⟨w1, hw1⟩ : ∃ w, w = z1.alloc (.cells #[.int .u8 0, .int .u32 1, .int .i64 0, .int .u32 1, .int .u8 0, .int .i64 0] 37) := ⟨_, rfl⟩
  obtain ⟨g1, hg1⟩ : ∃ g, g = z1.heap.size := ⟨_, rfl⟩
  have hbb : Below z1.heap.size z1 w1 := by rw [hw1]; exact (Below.refl _ _).alloc (Nat.le_refl _) _
  have HX1 := hid (show w1.heap[g1]? = some (.cells #[.int .u8 0, .int .u32 1, .int .i64 0, .int .u32 1, .int .u8 0, .int .i64 0] 37 (0, 0)) by rw [hw1, hg1]; exact heap_alloc_new z1 _)
  have HN1 := hid (show ¬ Tk b va1 vo1 g1 from fun e => by have := (hs.tb.tk_lt e).2; omega)
  have HT1 := hid (hs.tb.below hbb)
  have HB := hid (HB.out.trans (hbb.mono HB.out.size))
  have HW1 := hid hw1
  have HG1 := hid hg1
  clear hs hbb hw1 hg1
  go_upto_region 5 with (fail)
  rw [← HW1.out]
  simp only [← HG1.out]
  go_wp2_with fail
  refine (lawsubmit_any 1 w1).mono ?_
  rintro e y2 ⟨rfl, hb⟩
  have HT := hid (HT1.out.below hb)
  have HX1 := hid ((hb.block g1 (Array.getElem?_eq_some_iff.1 HX1.out).1).trans HX1.out)
  have hx1 := (Array.getElem?_eq_some_iff.1 HX1.out).1
  have HB := hid (HB.out.trans (hb.mono HB.out.size))
  clear hb
  have HD := hid (show Calls Try.prog 9 #[.pointer (some ⟨b, 0, none⟩), .agg #[.int .u8 0, .int .u32 1, .int .u8 1, .int .u8 1, .int .i64 2, .int .i64 5, .int .u32 0]] y2 fun e w' => e = .returned (.tuple #[.agg #[.int .u8 0, .int .u32 1, .int .i64 0, .int .u32 1, .int .u8 0, .int .i64 0], .bool false]) ∧ ∃ va' vo', Stp y2 b b va1 vo1 w' va' vo' awT from do_at y2 b b va1 vo1 awT (subQ 1) HT.out (by decide) (by decide) (by unfold Note.Q.wf subQ; simp) (by decide) aw_2)
  go_wp2_with fail
  refine HD.out.mono ?_
  rintro e z2 ⟨rfl, va2, vo2, hs⟩
  have HX1 := hid (hs.aside HX1.out HN1.out)
  have HN1 := hid (hs.apart hx1 HN1.out)
  have HB := hid (hs.bel HT.out HB.out HLO.out HB.out.size)
  obtain ⟨w2, hw2⟩ : ∃ w, w = z2.alloc (.cells #[.int .u8 0, .int .u32 1, .int .i64 0, .int .u32 1, .int .u8 0, .int .i64 0] 37) := ⟨_, rfl⟩
  obtain ⟨g2, hg2⟩ : ∃ g, g = z2.heap.size := ⟨_, rfl⟩
  have hbb : Below z2.heap.size z2 w2 := by rw [hw2]; exact (Below.refl _ _).alloc (Nat.le_refl _) _
  have HX2 := hid (show w2.heap[g2]? = some (.cells #[.int .u8 0, .int .u32 1, .int .i64 0, .int .u32 1, .int .u8 0, .int .i64 0] 37 (0, 0)) by rw [hw2, hg2]; exact heap_alloc_new z2 _)
  have HN2 := hid (show ¬ Tk b va2 vo2 g2 from fun e => by have := (hs.tb.tk_lt e).2; omega)
  have HX1 := hid ((hbb.block g1 (Array.getElem?_eq_some_iff.1 HX1.out).1).trans HX1.out)
  have HT2 := hid (hs.tb.below hbb)
  have HB := hid (HB.out.trans (hbb.mono HB.out.size))
  have HW2 := hid hw2
  have HG2 := hid hg2
  clear hs hbb hw2 hg2 hx1
  go_upto_region 6 with (fail)
  rw [← HW2.out]
  simp only [← HG2.out]
  go_wp2_with fail
  refine (lawsubmit_any 3 w2).mono ?_
  rintro e y3 ⟨rfl, hb⟩
  have HT := hid (HT2.out.below hb)
  have HX1 := hid ((hb.block g1 (Array.getElem?_eq_some_iff.1 HX1.out).1).trans HX1.out)
  have hx1 := (Array.getElem?_eq_some_iff.1 HX1.out).1
  have HX2 := hid ((hb.block g2 (Array.getElem?_eq_some_iff.1 HX2.out).1).trans HX2.out)
  have hx2 := (Array.getElem?_eq_some_iff.1 HX2.out).1
  have HB := hid (HB.out.trans (hb.mono HB.out.size))
  clear hb
  have HD := hid (show Calls Try.prog 9 #[.pointer (some ⟨b, 0, none⟩), .agg #[.int .u8 0, .int .u32 3, .int .u8 1, .int .u8 1, .int .i64 2, .int .i64 5, .int .u32 0]] y3 fun e w' => e = .returned (.tuple #[.agg #[.int .u8 0, .int .u32 3, .int .i64 11, .int .u32 0, .int .u8 0, .int .i64 0], .bool false]) ∧ ∃ va' vo', Stp y3 b b va2 vo2 w' va' vo' awT from do_at y3 b b va2 vo2 awT (subQ 3) HT.out (by decide) (by decide) (by unfold Note.Q.wf subQ; simp) (by decide) aw_3)
  go_wp2_with fail
  refine HD.out.mono ?_
  rintro e z3 ⟨rfl, va3, vo3, hs⟩
  have HX1 := hid (hs.aside HX1.out HN1.out)
  have HN1 := hid (hs.apart hx1 HN1.out)
  have HX2 := hid (hs.aside HX2.out HN2.out)
  have HN2 := hid (hs.apart hx2 HN2.out)
  have HB := hid (hs.bel HT.out HB.out HLO.out HB.out.size)
  obtain ⟨w3, hw3⟩ : ∃ w, w = z3.alloc (.cells #[.int .u8 0, .int .u32 3, .int .i64 11, .int .u32 0, .int .u8 0, .int .i64 0] 37) := ⟨_, rfl⟩
  obtain ⟨g3, hg3⟩ : ∃ g, g = z3.heap.size := ⟨_, rfl⟩
  have hbb : Below z3.heap.size z3 w3 := by rw [hw3]; exact (Below.refl _ _).alloc (Nat.le_refl _) _
  have HX3 := hid (show w3.heap[g3]? = some (.cells #[.int .u8 0, .int .u32 3, .int .i64 11, .int .u32 0, .int .u8 0, .int .i64 0] 37 (0, 0)) by rw [hw3, hg3]; exact heap_alloc_new z3 _)
  have HN3 := hid (show ¬ Tk b va3 vo3 g3 from fun e => by have := (hs.tb.tk_lt e).2; omega)
  have HX1 := hid ((hbb.block g1 (Array.getElem?_eq_some_iff.1 HX1.out).1).trans HX1.out)
  have HX2 := hid ((hbb.block g2 (Array.getElem?_eq_some_iff.1 HX2.out).1).trans HX2.out)
  have HT3 := hid (hs.tb.below hbb)
  have HB := hid (HB.out.trans (hbb.mono HB.out.size))
  have HW3 := hid hw3
  have HG3 := hid hg3
  clear hs hbb hw3 hg3 hx1 hx2
  go_upto_region 7 with (fail)
  rw [← HW3.out]
  simp only [← HG3.out]
  have c10 : w3.cell? ⟨g1, 0, none⟩ = some (.int .u8 0) := (cell_of_row _ _ _ _ _ _ HX1.out).trans rfl
  have c11 : w3.cell? ⟨g1, 1, none⟩ = some (.int .u32 1) := (cell_of_row _ _ _ _ _ _ HX1.out).trans rfl
  have c12 : w3.cell? ⟨g1, 2, none⟩ = some (.int .i64 0) := (cell_of_row _ _ _ _ _ _ HX1.out).trans rfl
  have c13 : w3.cell? ⟨g1, 3, none⟩ = some (.int .u32 1) := (cell_of_row _ _ _ _ _ _ HX1.out).trans rfl
  have c14 : w3.cell? ⟨g1, 4, none⟩ = some (.int .u8 0) := (cell_of_row _ _ _ _ _ _ HX1.out).trans rfl
  have c15 : w3.cell? ⟨g1, 5, none⟩ = some (.int .i64 0) := (cell_of_row _ _ _ _ _ _ HX1.out).trans rfl
  have c20 : w3.cell? ⟨g2, 0, none⟩ = some (.int .u8 0) := (cell_of_row _ _ _ _ _ _ HX2.out).trans rfl
  have c21 : w3.cell? ⟨g2, 1, none⟩ = some (.int .u32 1) := (cell_of_row _ _ _ _ _ _ HX2.out).trans rfl
  have c22 : w3.cell? ⟨g2, 2, none⟩ = some (.int .i64 0) := (cell_of_row _ _ _ _ _ _ HX2.out).trans rfl
  have c23 : w3.cell? ⟨g2, 3, none⟩ = some (.int .u32 1) := (cell_of_row _ _ _ _ _ _ HX2.out).trans rfl
  have c24 : w3.cell? ⟨g2, 4, none⟩ = some (.int .u8 0) := (cell_of_row _ _ _ _ _ _ HX2.out).trans rfl
  have c25 : w3.cell? ⟨g2, 5, none⟩ = some (.int .i64 0) := (cell_of_row _ _ _ _ _ _ HX2.out).trans rfl
  have c30 : w3.cell? ⟨g3, 0, none⟩ = some (.int .u8 0) := (cell_of_row _ _ _ _ _ _ HX3.out).trans rfl
  have c31 : w3.cell? ⟨g3, 1, none⟩ = some (.int .u32 3) := (cell_of_row _ _ _ _ _ _ HX3.out).trans rfl
  have c32 : w3.cell? ⟨g3, 2, none⟩ = some (.int .i64 11) := (cell_of_row _ _ _ _ _ _ HX3.out).trans rfl
  have c33 : w3.cell? ⟨g3, 3, none⟩ = some (.int .u32 0) := (cell_of_row _ _ _ _ _ _ HX3.out).trans rfl
  have c34 : w3.cell? ⟨g3, 4, none⟩ = some (.int .u8 0) := (cell_of_row _ _ _ _ _ _ HX3.out).trans rfl
  have c35 : w3.cell? ⟨g3, 5, none⟩ = some (.int .i64 0) := (cell_of_row _ _ _ _ _ _ HX3.out).trans rfl
  go_wp2_with fail
  go_ret
  exact ⟨rfl, HB.out⟩

end Go.Proofs.Ytahiaifdfgkemaa

namespace Go.Proofs.Ytahiaifdfgkemaa
open Go.RowKit
set_option linter.unusedVariables false
set_option linter.unusedSimpArgs false

/-- A pen of this call's own, in block b. -/
def Pk (w0 wr : World) (b : Nat) (v : Value) (l : List UInt8) : Prop := PenAt wr b b v l false ∧ Below b w0 wr
section
variable {w0 wr w2 : World} {b : Nat} {v : Value} {l m : List UInt8}
theorem Pk.wrote (h : Pk w0 wr b v l) (hw : Wrote wr b b v l m w2) : ∃ v', Pk w0 w2 b v' (l ++ m) ∧ ∀ (p : Nat) (cs : Array Value) (T : TypeId), wr.heap[p]? = some (Obj.cells cs T (0, 0)) → T ≠ 5 → T ≠ 83 → w2.heap[p]? = some (Obj.cells cs T (0, 0)) := by
  obtain ⟨v', h1, h2, h3⟩ := hw
  refine ⟨v', ⟨h1, h.2.trans (h2.below (Nat.le_of_lt h.1.lt) ?_)⟩, fun p cs T hp ht1 ht2 => (h2.block p (Array.getElem?_eq_some_iff.1 hp).1 ?_).trans hp⟩
  · rintro i (rfl | e)
    · exact Nat.le_refl _
    · exact (h.1.2.1.lt i e).1
  · rintro (rfl | e)
    · have := h.1.1
      rw [hp] at this
      simp only [Option.some.injEq, Obj.cells.injEq] at this
      exact ht2 this.2.1
    · obtain ⟨c, hc⟩ := owns_ty h.1.2.1 p e
      rw [hp] at hc
      simp only [Option.some.injEq, Obj.cells.injEq] at hc
      exact ht1 hc.2.1
theorem Pk.below (h : Pk w0 wr b v l) (hb : Below wr.heap.size wr w2) : Pk w0 w2 b v l := ⟨h.1.below hb, h.2.trans (hb.mono (Nat.le_of_lt h.1.lt))⟩
theorem Pk.le (h : Pk w0 wr b v l) : b ≤ wr.heap.size := Nat.le_of_lt h.1.lt
end
theorem num_le (n : Nat) : (Ink.num n).length ≤ 10 := (Ink.num_length n).1
def encJ (i ti K W : Nat) : List UInt8 := Ink.num i ++ Ink.num ti ++ Ink.num K ++ Ink.num W
theorem encJ_le (i ti K W : Nat) : (encJ i ti K W).length ≤ 40 := by
  unfold encJ
  have := num_le i; have := num_le ti; have := num_le K; have := num_le W
  simp only [List.length_append]
  omega

def encE (st cr : Nat) : List UInt8 := if st = 4 then Ink.num 1 else Ink.num 0 ++ Ink.num cr

set_option maxRecDepth 100000 in
set_option maxHeartbeats 2000000 in
theorem writejob_n (w0 wr : World) (b : Nat) (v : Value) (l : List UInt8) (i ti K W st : Nat) (cr : Int) (h : Pk w0 wr b v l) (hl : l.length ≤ 900000) (hi : i ≤ 4294967295) (ht : ti < 256) (hK : K < 9223372036854775808) (hW : W < 9223372036854775808) :
    Calls Try.prog 29 #[.pointer (some ⟨b, 0, none⟩), .agg #[.int .u32 (i : Int), .int .u8 (ti : Int), .int .i64 (K : Int), .int .i64 (W : Int), .int .u8 (st : Int), .int .i64 cr]] wr fun e w' => e = .returned (.tuple #[]) ∧ ∃ v', Pk w0 w' b v' (l ++ encJ i ti K W) ∧ ∀ (p : Nat) (cs : Array Value) (T : TypeId), wr.heap[p]? = some (Obj.cells cs T (0, 0)) → T ≠ 5 → T ≠ 83 → w'.heap[p]? = some (Obj.cells cs T (0, 0)) := by
  obtain ⟨w1, hw1⟩ : ∃ w1, w1 = wr.alloc (.cells #[.int .u32 (i : Int), .int .u8 (ti : Int), .int .i64 (K : Int), .int .i64 (W : Int), .int .u8 (st : Int), .int .i64 cr] 44) := ⟨_, rfl⟩
  obtain ⟨p, hp⟩ : ∃ p, p = wr.heap.size := ⟨_, rfl⟩
  have hb1 : Below wr.heap.size wr w1 := by rw [hw1]; exact (Below.refl _ _).alloc (Nat.le_refl _) _
  have hx1 : w1.heap[p]? = some (.cells #[.int .u32 (i : Int), .int .u8 (ti : Int), .int .i64 (K : Int), .int .i64 (W : Int), .int .u8 (st : Int), .int .i64 cr] 44 (0, 0)) := by rw [hw1, hp]; exact heap_alloc_new wr _
  have HX1 := hid hx1
  have HP1 := hid (h.below hb1)
  have HB1 := hid hb1
  have k0 : w1.cell? ⟨p, 0, none⟩ = some (.int .u32 (i : Int)) := (cell_of_row _ _ _ _ _ _ hx1).trans rfl
  have n1 := num_le i
  have n2 := num_le ti
  have n3 := num_le K
  clear h hb1 hx1
  go_enter Try.func29, Try.ntmps29
  go_upto_region 1 with fail
  rw [← hw1]
  simp only [← hp]
  clear hw1 hp
  go_wp2_with fail
  refine (pennum_at b b v l i _ rfl (by omega) w1 HP1.out.1 (by omega) HP1.out.le).mono ?_
  rintro e w2 ⟨rfl, hw2⟩
  obtain ⟨v2, hp2', hbx2⟩ := HP1.out.wrote hw2
  have HP2 := hid hp2'
  have HH2 := hid hbx2
  have HX2 := hid (hbx2 p _ _ HX1.out (by decide) (by decide))
  have k2 : w2.cell? ⟨p, 1, none⟩ = some (.int .u8 (ti : Int)) := (cell_of_row _ _ _ _ _ _ HX2.out).trans rfl
  clear hw2 hp2' hbx2
  go_wp2_with fail
  refine (pennum_at b b v2 _ ti _ rfl (by omega) w2 HP2.out.1 (by simp only [List.length_append]; omega) HP2.out.le).mono ?_
  rintro e w3 ⟨rfl, hw3⟩
  obtain ⟨v3, hp3', hbx3⟩ := HP2.out.wrote hw3
  have HP3 := hid hp3'
  have HH3 := hid hbx3
  have HX3 := hid (hbx3 p _ _ HX2.out (by decide) (by decide))
  have k3 : w3.cell? ⟨p, 2, none⟩ = some (.int .i64 (K : Int)) := (cell_of_row _ _ _ _ _ _ HX3.out).trans rfl
  clear hw3 hp3' hbx3
  go_wp2_with fail
  refine (penint_good b b v3 _ K hK w3 HP3.out.1 (by simp only [List.length_append]; omega) HP3.out.le).mono ?_
  rintro e w4 ⟨rfl, hw4⟩
  obtain ⟨v4, hp4', hbx4⟩ := HP3.out.wrote hw4
  have HP4 := hid hp4'
  have HH4 := hid hbx4
  have HX4 := hid (hbx4 p _ _ HX3.out (by decide) (by decide))
  have k4 : w4.cell? ⟨p, 3, none⟩ = some (.int .i64 (W : Int)) := (cell_of_row _ _ _ _ _ _ HX4.out).trans rfl
  clear hw4 hp4' hbx4
  go_wp2_with fail
  refine (penint_good b b v4 _ W hW w4 HP4.out.1 (by simp only [List.length_append]; omega) HP4.out.le).mono ?_
  rintro e w5 ⟨rfl, hw5⟩
  obtain ⟨v5, hp5', hbx5⟩ := HP4.out.wrote hw5
  have HH5 := hid hbx5
  have HP5 := hid hp5'
  clear hw5 hp5'
  go_wp2_with fail
  go_end0
  refine ⟨rfl, v5, ?_, fun p cs T hp h1 h2 => HH5.out p cs T (HH4.out p cs T (HH3.out p cs T (HH2.out p cs T ((HB1.out.block p (Array.getElem?_eq_some_iff.1 hp).1).trans hp) h1 h2) h1 h2) h1 h2) h1 h2⟩
  have := HP5.out
  unfold encJ
  simp only [List.append_assoc] at this ⊢
  exact this

set_option maxRecDepth 100000 in
set_option maxHeartbeats 2000000 in
theorem writeend_n (w0 wr : World) (b : Nat) (v : Value) (l : List UInt8) (i ti : Int) (K W : Int) (st cr : Nat) (h : Pk w0 wr b v l) (hl : l.length ≤ 900000) (hc : cr < 9223372036854775808) :
    Calls Try.prog 30 #[.pointer (some ⟨b, 0, none⟩), .agg #[.int .u32 i, .int .u8 ti, .int .i64 K, .int .i64 W, .int .u8 (st : Int), .int .i64 (cr : Int)]] wr fun e w' => e = .returned (.tuple #[]) ∧ ∃ v', Pk w0 w' b v' (l ++ encE st cr) := by
  obtain ⟨w1, hw1⟩ : ∃ w1, w1 = wr.alloc (.cells #[.int .u32 i, .int .u8 ti, .int .i64 K, .int .i64 W, .int .u8 (st : Int), .int .i64 (cr : Int)] 44) := ⟨_, rfl⟩
  obtain ⟨p, hp⟩ : ∃ p, p = wr.heap.size := ⟨_, rfl⟩
  have hb1 : Below wr.heap.size wr w1 := by rw [hw1]; exact (Below.refl _ _).alloc (Nat.le_refl _) _
  have hx1 : w1.heap[p]? = some (.cells #[.int .u32 i, .int .u8 ti, .int .i64 K, .int .i64 W, .int .u8 (st : Int), .int .i64 (cr : Int)] 44 (0, 0)) := by rw [hw1, hp]; exact heap_alloc_new wr _
  have HX1 := hid hx1
  have HP1 := hid (h.below hb1)
  have k0 : w1.cell? ⟨p, 4, none⟩ = some (.int .u8 (st : Int)) := (cell_of_row _ _ _ _ _ _ hx1).trans rfl
  clear h hb1 hx1
  go_enter Try.func30, Try.ntmps30
  go_upto_region 1 with fail
  rw [← hw1]
  simp only [← hp]
  clear hw1 hp
  by_cases hs : st = 4
  · have d1 : decide ((st : Int) = 4) = true := decide_eq_true (by omega)
    have d2 : ((st : Int) == 4) = true := by simp; omega
    have d3 : ((st : Int) != 4) = false := by simp; omega
    have HE := hid (show encE st cr = Ink.num 1 by unfold encE; rw [if_pos hs])
    go_wp2_with fail
    refine (penbool_good b b v l true w1 HP1.out.1 (by omega) HP1.out.le).mono ?_
    rintro e w2 ⟨rfl, hw2⟩
    obtain ⟨v2, hp2', hbx2⟩ := HP1.out.wrote hw2
    have HP2 := hid hp2'
    have hx2 := hbx2 p _ _ HX1.out (by decide) (by decide)
    have k2 : w2.cell? ⟨p, 4, none⟩ = some (.int .u8 (st : Int)) := (cell_of_row _ _ _ _ _ _ hx2).trans rfl
    clear hw2 hp2' hbx2 hx2
    go_wp2_with fail
    go_end0
    exact ⟨rfl, v2, by rw [HE.out]; exact HP2.out⟩
  · have d1 : decide ((st : Int) = 4) = false := decide_eq_false (by omega)
    have d2 : ((st : Int) == 4) = false := by simp; omega
    have d3 : ((st : Int) != 4) = true := by simp; omega
    have HE := hid (show encE st cr = Ink.num 0 ++ Ink.num cr by unfold encE; rw [if_neg hs])
    have n1 := num_le 0
    go_wp2_with fail
    refine (penbool_good b b v l false w1 HP1.out.1 (by omega) HP1.out.le).mono ?_
    rintro e w2 ⟨rfl, hw2⟩
    obtain ⟨v2, hp2', hbx2⟩ := HP1.out.wrote hw2
    have HP2 := hid hp2'
    have hx2 := hbx2 p _ _ HX1.out (by decide) (by decide)
    have k2 : w2.cell? ⟨p, 4, none⟩ = some (.int .u8 (st : Int)) := (cell_of_row _ _ _ _ _ _ hx2).trans rfl
    have k3 : w2.cell? ⟨p, 5, none⟩ = some (.int .i64 (cr : Int)) := (cell_of_row _ _ _ _ _ _ hx2).trans rfl
    clear hw2 hp2' hbx2 hx2
    go_wp2_with fail
    refine (penint_good b b v2 _ cr hc w2 HP2.out.1 (by simp only [List.length_append]; first | omega | (simp; omega)) HP2.out.le).mono ?_
    rintro e w3 ⟨rfl, hw3⟩
    obtain ⟨v3, hp3', -⟩ := HP2.out.wrote hw3
    have HP3 := hid hp3'
    clear hw3 hp3'
    go_wp2_with fail
    go_end0
    refine ⟨rfl, v3, ?_⟩
    have := HP3.out
    rw [HE.out]
    simpa only [List.append_assoc, if_neg, Bool.false_eq_true, if_false] using this

def asked (r : Note.R) : Bool := !(decide (r.cl = 0) && decide (r.s = 0) && decide (r.e = 0) && decide (r.j = 0) && decide (r.st = 0) && decide (r.c = 0))

set_option maxHeartbeats 1000000 in
theorem hasasked_any (w : World) (r : Note.R) : Calls Try.prog 31 #[rv r] w fun e w' => e = .returned (.bool (asked r)) ∧ Below w.heap.size w w' := by
  obtain ⟨cl, s, ee, j, st, c⟩ := r
  show Calls Try.prog 31 #[.agg #[.int .u8 (cl : Int), .int .u32 (s : Int), .int .i64 ee, .int .u32 (j : Int), .int .u8 (st : Int), .int .i64 c]] w _
  go_enter Try.func31, Try.ntmps31
  go_wp2_with fail
  all_goals
    go_ret
    refine ⟨?_, (Below.refl _ _).alloc (Nat.le_refl _) _⟩
    simp [asked, *]

end Go.Proofs.Ytahiaifdfgkemaa

namespace Go.Proofs.Ytahiaifdfgkemaa
open Go.RowKit
set_option linter.unusedVariables false
set_option linter.unusedSimpArgs false

def Jw (x : Jb) : Prop := x.1 ≤ 4294967295 ∧ x.2.1 < 256 ∧ (0 ≤ x.2.2.1 ∧ x.2.2.1 < 9223372036854775808) ∧ (0 ≤ x.2.2.2.1 ∧ x.2.2.2.1 < 9223372036854775808) ∧ 0 ≤ x.2.2.2.2.2 ∧ x.2.2.2.2.2 < 9223372036854775808
def ej (x : Jb) : List UInt8 := encJ x.1 x.2.1 x.2.2.1.toNat x.2.2.2.1.toNat
def eo (x : Jb) : List UInt8 := ej x ++ encE x.2.2.2.2.1 x.2.2.2.2.2.toNat
def er (r : Note.R) : List UInt8 := Ink.num r.s ++ if asked r = true then Ink.num r.j else []
def tbytes (t : Tb) : List UInt8 := Ink.num t.last ++ Ink.num t.act.length ++ t.act.flatMap ej ++ t.over.flatMap eo ++ t.rs.flatMap er
theorem ej_le (x : Jb) : (ej x).length ≤ 60 := Nat.le_trans (encJ_le _ _ _ _) (by omega)
theorem encE_le (st cr : Nat) : (encE st cr).length ≤ 20 := by
  unfold encE
  have := num_le 1
  have := num_le 0
  have := num_le cr
  split
  · omega
  · rw [List.length_append]; omega
theorem eo_le (x : Jb) : (eo x).length ≤ 60 := by
  unfold eo
  have := encJ_le x.1 x.2.1 x.2.2.1.toNat x.2.2.2.1.toNat
  have := encE_le x.2.2.2.2.1 x.2.2.2.2.2.toNat
  rw [List.length_append]
  unfold ej
  omega
theorem er_le (r : Note.R) : (er r).length ≤ 60 := by
  unfold er
  have := num_le r.s
  have := num_le r.j
  rw [List.length_append]
  split <;> simp <;> omega
theorem fm_le {α : Type} (f : α → List UInt8) (hf : ∀ x, (f x).length ≤ 60) : ∀ l : List α, (l.flatMap f).length ≤ 60 * l.length
  | [] => Nat.le_refl _
  | x :: l => by
    rw [List.flatMap_cons, List.length_append, List.length_cons]
    have := hf x
    have := fm_le f hf l
    omega
theorem fm_take {α : Type} (f : α → List UInt8) (hf : ∀ x, (f x).length ≤ 60) (l : List α) (k : Nat) : ((l.take k).flatMap f).length ≤ 60 * l.length := by
  refine Nat.le_trans (fm_le f hf _) (Nat.mul_le_mul_left _ ?_)
  rw [List.length_take]
  omega
theorem fm_snoc {α : Type} (f : α → List UInt8) (l : List α) (k : Nat) (x : α) (h : l[k]? = some x) (A : List UInt8) : (A ++ (l.take k).flatMap f) ++ f x = A ++ (l.take (k + 1)).flatMap f := by
  rw [List.take_add_one, h, List.append_assoc]
  simp
theorem ex6 : ∀ (l : List Note.R) (k : Nat) (r : Note.R), l[k]? = some r → ((rcels l).toArray.extract (k * 6) (k * 6 + 6)) = (rcel r).toArray := by
  intro l k r h
  have hk := (List.getElem?_eq_some_iff.1 h).1
  have hl := rcels_len l
  refine Array.ext ?_ fun j h1 h2 => ?_
  · simp [rcel]; omega
  · have h2' : j < 6 := by simpa [rcel] using h2
    have hv : (rcel r)[j]? = some ((rcel r)[j]'(by simpa [rcel] using h2')) := List.getElem?_eq_getElem _
    have := rcels_at l k r j _ h hv
    have e := (List.getElem?_eq_some_iff.1 this).2
    simp only [Array.getElem_extract, List.getElem_toArray]
    exact e
theorem run_ix (w : World) (rs : List Note.R) (k : Nat) (r : Note.R) (h : rs[k]? = some r) (hk : k < 8) : (Instr.index 56 (.agg (rcels rs).toArray) (.int .i64 (k : Int))).run Try.prog w = .ok (.agg (rcel r).toArray) w := by
  have hagg : (isAgg 37).run Try.prog w = .ok true w := by
    unfold isAgg
    rw [Sem.run_bind, run_underlying Try.underlying37 w]
    rfl
  have hi : (Try.prog.info? 37).map (·.size) = some 6 := by kernel_rfl
  cases hq : Try.prog.info? 37 with
  | none => rw [hq] at hi; cases hi
  | some i =>
    have hs : i.size = 6 := by rw [hq] at hi; simpa using hi
    have hz : (sizeOf 37).run Try.prog w = .ok 6 w := by simp [sizeOf, typeInfo, hq, hs, Sem.run_bind]
    have hlt : (0 : Int) ≤ (k : Int) ∧ (k : Int) < ((8 : Nat) : Int) := by omega
    rw [← ex6 rs k r h]
    simp [Instr.index, asIntOf, run_underlying Try.underlying56 w, Sem.run_bind, hk, hz, part, hagg]

set_option maxRecDepth 100000 in
set_option maxHeartbeats 8000000 in
theorem bytes_any (w : World) (lo tb : Nat) (va vo : Value) (t : Tb) (h : TbAt w lo tb va vo t) (hj : ∀ x ∈ t.act ++ t.over, Jw x) (hl : t.last < 1000000) (hrs : ∀ r ∈ t.rs, r.s ≤ 4294967295 ∧ r.j ≤ 4294967295) :
    Calls Try.prog 13 #[.pointer (some ⟨tb, 0, none⟩)] w fun e w' => ∃ v, e = .returned v ∧ Own w' w.heap.size v (tbytes t) ∧ Below w.heap.size w w' := by
  obtain ⟨aa, ca, eva, -, -⟩ := owns_slice h.oa
  obtain ⟨ao, co, evo, -, -⟩ := owns_slice h.oo
  subst eva evo
  have HT := hid h
  have HJW := hid hj
  have HRS := hid hrs
  have HL8 := hid h.r8
  obtain ⟨b, hb⟩ : ∃ b, b = w.heap.size := ⟨_, rfl⟩
  have HLA := hid h.la
  have HLV := hid h.lv
  have ha1 := h.la
  have hv1 := h.lv
  obtain ⟨A1, hA1⟩ : ∃ A, A = Ink.num t.last ++ Ink.num t.act.length := ⟨_, rfl⟩
  obtain ⟨A2, hA2⟩ : ∃ A, A = A1 ++ t.act.flatMap ej := ⟨_, rfl⟩
  obtain ⟨A3, hA3⟩ : ∃ A, A = A2 ++ t.over.flatMap eo := ⟨_, rfl⟩
  have HE1 := hid (show A1.length ≤ 20 by rw [hA1, List.length_append]; have := num_le t.last; have := num_le t.act.length; omega)
  have HE2 := hid (show A2.length ≤ 61000 by rw [hA2, List.length_append]; have := HE1.out; have := fm_le ej ej_le t.act; omega)
  have HE3 := hid (show A3.length ≤ 122000 by rw [hA3, List.length_append]; have := HE2.out; have := fm_le eo eo_le t.over; omega)
  have HTB := hid (show tbytes t = A3 ++ t.rs.flatMap er by unfold tbytes; rw [hA3, hA2, hA1])
  have HA1 := hid hA1
  have HA2 := hid hA2
  have HA3 := hid hA3
  have HB0 := hid hb
  clear h hj hrs hA1 hA2 hA3
  go_enter Try.func13, Try.ntmps13
  go_wp2_with fail
  refine (new_any w).mono ?_
  rintro e w1 ⟨rfl, hp1, hb1, -⟩
  rw [← hb] at hp1
  simp only [← hb]
  have HP1 := hid (show Pk w w1 b (.slice none 0 0) [] from ⟨hp1, by rw [hb]; exact hb1⟩)
  have c1 := (HT.out.below hb1).c1
  clear hp1 hb1 hb
  go_wp2_with fail
  refine (pennum_at b b _ [] t.last _ rfl (by omega) w1 HP1.out.1 (Nat.zero_le _) HP1.out.le).mono ?_
  rintro e w2 ⟨rfl, hw2⟩
  obtain ⟨v2, hp2, -⟩ := HP1.out.wrote hw2
  have HP2 := hid hp2
  have c2 := (HT.out.below (HB0.out ▸ hp2.2)).c2
  have n1 := num_le t.last
  clear hw2 hp2 c1
  go_wp2_with fail
  refine (penint_good b b v2 _ t.act.length (by omega) w2 HP2.out.1 (by simp; omega) HP2.out.le).mono ?_
  rintro e w3 ⟨rfl, hw3⟩
  obtain ⟨v3, hp3, -⟩ := HP2.out.wrote hw3
  have HP3 := hid (show Pk w w3 b v3 A1 by rw [HA1.out]; simpa using hp3)
  have c2 := (HT.out.below (HB0.out ▸ hp3.2)).c2
  clear hw3 hp3
  go_wp2_with fail
  go_loopw [32] (fun vi wz => ∃ (k : Nat) (v : Value), k ≤ t.act.length ∧ vi = .int .i64 k ∧ Pk w wz b v (A1 ++ (t.act.take k).flatMap ej)) (fun i _ => t.act.length - (intOf i).toNat)
  case atStart => exact ⟨0, v3, Nat.zero_le _, rfl, by simpa using HP3.out⟩
  case round =>
    obtain ⟨k, v, hk, rfl, hpz⟩ := hrel
    obtain ⟨wz, hwz⟩ : ∃ wz, wz = wr := ⟨_, rfl⟩
    subst hwz
    have HPZ := hid hpz
    have hTz := HT.out.below (HB0.out ▸ hpz.2)
    have HTZ := hid hTz
    clear hpz
    by_cases hlt : k < t.act.length
    · have hki : (k : Int) < (t.act.length : Int) := by omega
      have HLN := hid (show (A1 ++ (t.act.take k).flatMap ej).length ≤ 900000 by rw [List.length_append]; have := HE1.out; have := fm_take ej ej_le t.act k; omega)
      obtain ⟨x, hx⟩ : ∃ x, t.act[k]? = some x := ⟨_, List.getElem?_eq_getElem hlt⟩
      obtain ⟨jb, jo, jc, ev, hjc1, hjc2, hjb, i0, i1, i2, i3, i4, i5⟩ := (OwnJ.rd HTZ.out.oa).item hx
      simp only [Value.slice.injEq] at ev
      obtain ⟨rfl, -, rfl⟩ := ev
      obtain ⟨i, ti, kk, ww, st, cc⟩ := x
      have hjw := HJW.out _ (List.mem_append_left _ <| (List.mem_of_getElem? hx))
      obtain ⟨q1, q2, ⟨q3, q4⟩, ⟨q5, q6⟩, q7, q8⟩ := hjw
      dsimp only at q1 q2 q3 q4 q5 q6 q7 q8 i0 i1 i2 i3 i4 i5
      obtain ⟨K, rfl⟩ := Int.eq_ofNat_of_zero_le q3
      obtain ⟨W, rfl⟩ := Int.eq_ofNat_of_zero_le q5
      obtain ⟨cr, rfl⟩ := Int.eq_ofNat_of_zero_le q7
      obtain ⟨w9, hw9⟩ : ∃ w9, w9 = wz.alloc (.cells #[.int .u32 (i : Int), .int .u8 (ti : Int), .int .i64 (K : Int), .int .i64 (W : Int), .int .u8 (st : Int), .int .i64 (cr : Int)] 44) := ⟨_, rfl⟩
      have hb9 : Below wz.heap.size wz w9 := by rw [hw9]; exact (Below.refl _ _).alloc (Nat.le_refl _) _
      have hx9 : w9.heap[wz.heap.size]? = some (.cells #[.int .u32 (i : Int), .int .u8 (ti : Int), .int .i64 (K : Int), .int .i64 (W : Int), .int .u8 (st : Int), .int .i64 (cr : Int)] 44 (0, 0)) := by rw [hw9]; exact heap_alloc_new wz _
      have HX9 := hid hx9
      have HP9 := hid (HPZ.out.below hb9)
      have b0 : w9.cell? ⟨wz.heap.size, 0, none⟩ = some (.int .u32 (i : Int)) := (cell_of_row _ _ _ _ _ _ hx9).trans rfl
      have b1 : w9.cell? ⟨wz.heap.size, 1, none⟩ = some (.int .u8 (ti : Int)) := (cell_of_row _ _ _ _ _ _ hx9).trans rfl
      have b2 : w9.cell? ⟨wz.heap.size, 2, none⟩ = some (.int .i64 (K : Int)) := (cell_of_row _ _ _ _ _ _ hx9).trans rfl
      have b3 : w9.cell? ⟨wz.heap.size, 3, none⟩ = some (.int .i64 (W : Int)) := (cell_of_row _ _ _ _ _ _ hx9).trans rfl
      have b4 : w9.cell? ⟨wz.heap.size, 4, none⟩ = some (.int .u8 (st : Int)) := (cell_of_row _ _ _ _ _ _ hx9).trans rfl
      have b5 : w9.cell? ⟨wz.heap.size, 5, none⟩ = some (.int .i64 (cr : Int)) := (cell_of_row _ _ _ _ _ _ hx9).trans rfl
      have HSN := hid (fm_snoc ej t.act k _ hx A1)
      clear hTz hx hb9 hx9
      go_upto_region 9 with fail
      rw [← hw9]
      clear hw9 i0 i1 i2 i3 i4 i5
      go_wp2_with fail
      refine (writejob_n w w9 b v _ i ti K W st (cr : Int) HP9.out HLN.out q1 q2 (by omega) (by omega)).mono ?_
      rintro e w10 ⟨rfl, v10, hp10, -⟩
      have HP10 := hid (show Pk w w10 b v10 (A1 ++ (t.act.take (k + 1)).flatMap ej) by rw [← HSN.out]; exact hp10)
      clear hp10
      go_wp2_with fail
      go_roundw
      case rel => exact ⟨k + 1, v10, hlt, by go_num, HP10.out⟩
      case measure => simp [intOf]; omega
    · have e : k = t.act.length := by omega
      have hki : ¬ (k : Int) < (t.act.length : Int) := by omega
      have HPA := hid (show Pk w wz b v A2 by rw [HA2.out]; have := HPZ.out; rw [e, List.take_length] at this; exact this)
      have c3 := hTz.c3
      clear hTz e
      go_wp2_with fail
      go_loopw [45] (fun vi wz => ∃ (k : Nat) (v : Value), k ≤ t.over.length ∧ vi = .int .i64 k ∧ Pk w wz b v (A2 ++ (t.over.take k).flatMap eo)) (fun i _ => t.over.length - (intOf i).toNat)
      case atStart => exact ⟨0, v, Nat.zero_le _, rfl, by simpa using HPA.out⟩
      case round =>
        obtain ⟨k, v, hk, rfl, hpz⟩ := hrel
        obtain ⟨wz, hwz⟩ : ∃ wz, wz = wr := ⟨_, rfl⟩
        subst hwz
        have HPZ := hid hpz
        have hTz := HT.out.below (HB0.out ▸ hpz.2)
        have HTZ := hid hTz
        clear hpz
        by_cases hlt : k < t.over.length
        · have hki : (k : Int) < (t.over.length : Int) := by omega
          have HLN := hid (show (A2 ++ (t.over.take k).flatMap eo).length ≤ 800000 by rw [List.length_append]; have := HE2.out; have := fm_take eo eo_le t.over k; omega)
          obtain ⟨x, hx⟩ : ∃ x, t.over[k]? = some x := ⟨_, List.getElem?_eq_getElem hlt⟩
          obtain ⟨jb, jo, jc, ev, hjc1, hjc2, hjb, i0, i1, i2, i3, i4, i5⟩ := (OwnJ.rd HTZ.out.oo).item hx
          simp only [Value.slice.injEq] at ev
          obtain ⟨rfl, -, rfl⟩ := ev
          obtain ⟨i, ti, kk, ww, st, cc⟩ := x
          have hjw := HJW.out _ (List.mem_append_right _ <| (List.mem_of_getElem? hx))
          obtain ⟨q1, q2, ⟨q3, q4⟩, ⟨q5, q6⟩, q7, q8⟩ := hjw
          dsimp only at q1 q2 q3 q4 q5 q6 q7 q8 i0 i1 i2 i3 i4 i5
          obtain ⟨K, rfl⟩ := Int.eq_ofNat_of_zero_le q3
          obtain ⟨W, rfl⟩ := Int.eq_ofNat_of_zero_le q5
          obtain ⟨cr, rfl⟩ := Int.eq_ofNat_of_zero_le q7
          obtain ⟨w9, hw9⟩ : ∃ w9, w9 = wz.alloc (.cells #[.int .u32 (i : Int), .int .u8 (ti : Int), .int .i64 (K : Int), .int .i64 (W : Int), .int .u8 (st : Int), .int .i64 (cr : Int)] 44) := ⟨_, rfl⟩
          have hb9 : Below wz.heap.size wz w9 := by rw [hw9]; exact (Below.refl _ _).alloc (Nat.le_refl _) _
          have hx9 : w9.heap[wz.heap.size]? = some (.cells #[.int .u32 (i : Int), .int .u8 (ti : Int), .int .i64 (K : Int), .int .i64 (W : Int), .int .u8 (st : Int), .int .i64 (cr : Int)] 44 (0, 0)) := by rw [hw9]; exact heap_alloc_new wz _
          have HX9 := hid hx9
          have HP9 := hid (HPZ.out.below hb9)
          have b0 : w9.cell? ⟨wz.heap.size, 0, none⟩ = some (.int .u32 (i : Int)) := (cell_of_row _ _ _ _ _ _ hx9).trans rfl
          have b1 : w9.cell? ⟨wz.heap.size, 1, none⟩ = some (.int .u8 (ti : Int)) := (cell_of_row _ _ _ _ _ _ hx9).trans rfl
          have b2 : w9.cell? ⟨wz.heap.size, 2, none⟩ = some (.int .i64 (K : Int)) := (cell_of_row _ _ _ _ _ _ hx9).trans rfl
          have b3 : w9.cell? ⟨wz.heap.size, 3, none⟩ = some (.int .i64 (W : Int)) := (cell_of_row _ _ _ _ _ _ hx9).trans rfl
          have b4 : w9.cell? ⟨wz.heap.size, 4, none⟩ = some (.int .u8 (st : Int)) := (cell_of_row _ _ _ _ _ _ hx9).trans rfl
          have b5 : w9.cell? ⟨wz.heap.size, 5, none⟩ = some (.int .i64 (cr : Int)) := (cell_of_row _ _ _ _ _ _ hx9).trans rfl
          have HSN := hid (fm_snoc eo t.over k _ hx A2)
          clear hTz hx hb9 hx9
          go_upto_region 14 with fail
          rw [← hw9]
          clear hw9 i0 i1 i2 i3 i4 i5
          go_wp2_with fail
          refine (writejob_n w w9 b v _ i ti K W st (cr : Int) HP9.out (by have := HLN.out; omega) q1 q2 (by omega) (by omega)).mono ?_
          rintro e w10 ⟨rfl, v10, hp10, hbx10⟩
          have HP10 := hid hp10
          have hx10 := hbx10 wz.heap.size _ _ HX9.out (by decide) (by decide)
          have d0 : w10.cell? ⟨wz.heap.size, 0, none⟩ = some (.int .u32 (i : Int)) := (cell_of_row _ _ _ _ _ _ hx10).trans rfl
          have d1 : w10.cell? ⟨wz.heap.size, 1, none⟩ = some (.int .u8 (ti : Int)) := (cell_of_row _ _ _ _ _ _ hx10).trans rfl
          have d2 : w10.cell? ⟨wz.heap.size, 2, none⟩ = some (.int .i64 (K : Int)) := (cell_of_row _ _ _ _ _ _ hx10).trans rfl
          have d3 : w10.cell? ⟨wz.heap.size, 3, none⟩ = some (.int .i64 (W : Int)) := (cell_of_row _ _ _ _ _ _ hx10).trans rfl
          have d4 : w10.cell? ⟨wz.heap.size, 4, none⟩ = some (.int .u8 (st : Int)) := (cell_of_row _ _ _ _ _ _ hx10).trans rfl
          have d5 : w10.cell? ⟨wz.heap.size, 5, none⟩ = some (.int .i64 (cr : Int)) := (cell_of_row _ _ _ _ _ _ hx10).trans rfl
          clear hp10 hbx10 hx10
          go_wp2_with fail
          refine (writeend_n w w10 b v10 _ (i : Int) (ti : Int) (K : Int) (W : Int) st cr HP10.out (by rw [List.length_append]; have := HLN.out; have := encJ_le i ti K W; omega) (by omega)).mono ?_
          rintro e w11 ⟨rfl, v11, hp11⟩
          have HP11 := hid (show Pk w w11 b v11 (A2 ++ (t.over.take (k + 1)).flatMap eo) by rw [← HSN.out]; have := hp11; rw [List.append_assoc] at this; exact this)
          clear hp11
          go_wp2_with fail
          go_roundw
          case rel => exact ⟨k + 1, v11, hlt, by go_num, HP11.out⟩
          case measure => simp [intOf]; omega
        · have e : k = t.over.length := by omega
          have hki : ¬ (k : Int) < (t.over.length : Int) := by omega
          have HPB := hid (show Pk w wz b v A3 by rw [HA3.out]; have := HPZ.out; rw [e, List.take_length] at this; exact this)
          have HRNG := hid (show wz.rangeAt tb 4 (rcels t.rs) from fun j u hu => by
            refine (cell_of_row _ _ _ _ _ _ hTz.blk).trans ?_
            rw [List.getElem?_toArray, show 4 + j = j + 1 + 1 + 1 + 1 by omega]
            exact hu)
          have HINF := hid (show (Try.prog.info? 56).map (·.size) = some (rcels t.rs).length by rw [rcels_len, HL8.out]; kernel_rfl)
          clear hTz e
          go_wp2_with (first | (refine wpList_load_mid rfl 56 (.tmp 58) rfl tb 4 rfl (rcels t.rs) _ HRNG.out Try.underlying56 rfl HINF.out ?_) | fail)
          go_loopw [60] (fun vi wz => ∃ (k : Nat) (v : Value), k ≤ 8 ∧ vi = .int .i64 k ∧ Pk w wz b v (A3 ++ (t.rs.take k).flatMap er)) (fun i _ => 8 - (intOf i).toNat)
          case atStart => exact ⟨0, v, Nat.zero_le _, rfl, by simpa using HPB.out⟩
          case round =>
            obtain ⟨k, v, hk, rfl, hpz⟩ := hrel
            obtain ⟨wz, hwz⟩ : ∃ wz, wz = wr := ⟨_, rfl⟩
            subst hwz
            have HPZ := hid hpz
            clear hpz
            by_cases hlt : k < 8
            · have hki : (k : Int) < 8 := by omega
              obtain ⟨r, hr⟩ : ∃ r, t.rs[k]? = some r := ⟨_, List.getElem?_eq_getElem (by rw [HL8.out]; exact hlt)⟩
              have hix0 := fun W => run_ix W t.rs k r hr hlt
              have HLN := hid (show (A3 ++ (t.rs.take k).flatMap er).length ≤ 700000 by rw [List.length_append]; have := HE3.out; have := fm_take er er_le t.rs k; have := HL8.out; omega)
              have HSN := hid (fm_snoc er t.rs k r hr A3)
              obtain ⟨hs1, hs2⟩ := HRS.out r (List.mem_of_getElem? hr)
              obtain ⟨cl, s, ee, j, st, c⟩ := r
              dsimp only at hs1 hs2
              have hix : ∀ W, (Instr.index 56 (.agg (rcels t.rs).toArray) (.int .i64 (k : Int))).run Try.prog W = .ok (.agg #[.int .u8 (cl : Int), .int .u32 (s : Int), .int .i64 ee, .int .u32 (j : Int), .int .u8 (st : Int), .int .i64 c]) W := hix0
              clear hix0
              obtain ⟨w9, hw9⟩ : ∃ w9, w9 = wz.alloc (.cells #[.int .u8 (cl : Int), .int .u32 (s : Int), .int .i64 ee, .int .u32 (j : Int), .int .u8 (st : Int), .int .i64 c] 37) := ⟨_, rfl⟩
              obtain ⟨p, hp⟩ : ∃ p, p = wz.heap.size := ⟨_, rfl⟩
              have hb9 : Below wz.heap.size wz w9 := by rw [hw9]; exact (Below.refl _ _).alloc (Nat.le_refl _) _
              have hx9 : w9.heap[p]? = some (.cells #[.int .u8 (cl : Int), .int .u32 (s : Int), .int .i64 ee, .int .u32 (j : Int), .int .u8 (st : Int), .int .i64 c] 37 (0, 0)) := by rw [hw9, hp]; exact heap_alloc_new wz _
              have HX9 := hid hx9
              have HP9 := hid (HPZ.out.below hb9)
              have b1 : w9.cell? ⟨p, 1, none⟩ = some (.int .u32 (s : Int)) := (cell_of_row _ _ _ _ _ _ hx9).trans rfl
              clear hb9 hx9 hr
              go_upto_region 20 with fail
              rw [← hw9]
              simp only [← hp]
              clear hw9 hix hp
              go_wp2_with fail
              refine (pennum_at b b v _ s _ rfl (by omega) w9 HP9.out.1 (by have := HLN.out; omega) HP9.out.le).mono ?_
              rintro e w10 ⟨rfl, hw10⟩
              obtain ⟨v10, hp10, hbx10⟩ := HP9.out.wrote hw10
              have HP10 := hid hp10
              have hx10 := hbx10 p _ _ HX9.out (by decide) (by decide)
              have HX10 := hid hx10
              have d0 : w10.cell? ⟨p, 0, none⟩ = some (.int .u8 (cl : Int)) := (cell_of_row _ _ _ _ _ _ hx10).trans rfl
              have d1 : w10.cell? ⟨p, 1, none⟩ = some (.int .u32 (s : Int)) := (cell_of_row _ _ _ _ _ _ hx10).trans rfl
              have d2 : w10.cell? ⟨p, 2, none⟩ = some (.int .i64 ee) := (cell_of_row _ _ _ _ _ _ hx10).trans rfl
              have d3 : w10.cell? ⟨p, 3, none⟩ = some (.int .u32 (j : Int)) := (cell_of_row _ _ _ _ _ _ hx10).trans rfl
              have d4 : w10.cell? ⟨p, 4, none⟩ = some (.int .u8 (st : Int)) := (cell_of_row _ _ _ _ _ _ hx10).trans rfl
              have d5 : w10.cell? ⟨p, 5, none⟩ = some (.int .i64 c) := (cell_of_row _ _ _ _ _ _ hx10).trans rfl
              have n1 := num_le s
              clear hw10 hp10 hbx10 hx10 b1
              go_wp2_with fail
              refine (hasasked_any w10 ⟨cl, s, ee, j, st, c⟩).mono ?_
              rintro e w11 ⟨rfl, hb11⟩
              have HP11 := hid (HP10.out.below hb11)
              have hx11 := (hb11.block p (Array.getElem?_eq_some_iff.1 HX10.out).1).trans HX10.out
              have b3 : w11.cell? ⟨p, 3, none⟩ = some (.int .u32 (j : Int)) := (cell_of_row _ _ _ _ _ _ hx11).trans rfl
              clear hb11 hx11
              cases hask : asked ⟨cl, s, ee, j, st, c⟩ with
              | false =>
                have HER := hid (show er ⟨cl, s, ee, j, st, c⟩ = Ink.num s by unfold er; rw [hask]; simp)
                have HP12 := hid (show Pk w w11 b v10 (A3 ++ (t.rs.take (k + 1)).flatMap er) by rw [← HSN.out, HER.out]; exact HP11.out)
                clear hask
                go_wp2_with fail
                go_roundw
                case rel => exact ⟨k + 1, v10, hlt, by go_num, HP12.out⟩
                case measure => simp [intOf]; omega
              | true =>
                have HER := hid (show er ⟨cl, s, ee, j, st, c⟩ = Ink.num s ++ Ink.num j by unfold er; rw [hask]; simp)
                clear hask
                go_wp2_with fail
                refine (pennum_at b b v10 _ j _ rfl (by omega) w11 HP11.out.1 (by rw [List.length_append]; have := HLN.out; omega) HP11.out.le).mono ?_
                rintro e w12 ⟨rfl, hw12⟩
                obtain ⟨v12, hp12, -⟩ := HP11.out.wrote hw12
                have HP12 := hid (show Pk w w12 b v12 (A3 ++ (t.rs.take (k + 1)).flatMap er) by rw [← HSN.out, HER.out, ← List.append_assoc]; exact hp12)
                clear hw12 hp12
                go_wp2_with fail
                go_roundw
                case rel => exact ⟨k + 1, v12, hlt, by go_num, HP12.out⟩
                case measure => simp [intOf]; omega
            · have e : k = 8 := by omega
              have hki : ¬ (k : Int) < 8 := by omega
              have HPE := hid (show Pk w wz b v (tbytes t) by rw [HTB.out]; have := HPZ.out; rw [e, show t.rs.take 8 = t.rs by rw [← HL8.out, List.take_length]] at this; exact this)
              have HLE := hid (show (tbytes t).length ≤ 1000000 by rw [HTB.out, List.length_append]; have := HE3.out; have := fm_le er er_le t.rs; have := HL8.out; omega)
              clear e
              go_wp2_with fail
              refine (penbytes_any b b v _ false wz HPE.out.1 HLE.out).mono ?_
              rintro e w13 ⟨v13, rfl, ho, hb13⟩
              have HO := hid (show Own w13 w.heap.size v13 (tbytes t) from ho.base fun q hq => by have := (ho.lt q hq).1; have := HPE.out.le; have := HB0.out; omega)
              have HB13 := hid (HPE.out.2.trans (hb13.mono HPE.out.le))
              clear ho hb13
              go_wp2_with fail
              go_ret
              exact ⟨v13, rfl, HO.out, HB0.out ▸ HB13.out⟩

end Go.Proofs.Ytahiaifdfgkemaa

namespace Go.Proofs.Ytahiaifdfgkemaa
open Go.RowKit
set_option linter.unusedVariables false
set_option linter.unusedSimpArgs false

set_option maxRecDepth 100000 in
set_option maxHeartbeats 4000000 in
theorem refsame16_any (w : World) (vx vy : Value) (l : List Jb) (hx : RdJ w vx l) (hy : RdJ w vy l) (hl : l.length ≤ 1000) :
    Calls Try.prog 15 #[vx, vy] w fun e w' => e = .returned (.bool true) ∧ Below w.heap.size w w' := by
  have HX := hid hx
  have HY := hid hy
  obtain ⟨ax, cx, rfl, -⟩ := hx
  obtain ⟨ay, cy, rfl, -⟩ := hy
  go_enter Try.func15, Try.ntmps15
  go_wp2_with fail
  go_loopw [13] (fun vi wz => ∃ k : Nat, k ≤ l.length ∧ vi = .int .i64 k ∧ Below w.heap.size w wz) (fun i _ => l.length - (intOf i).toNat)
  case atStart => exact ⟨0, Nat.zero_le _, rfl, Below.refl _ _⟩
  case round =>
    obtain ⟨k, hk, rfl, hbz⟩ := hrel
    have HBZ := hid hbz
    by_cases hlt : k < l.length
    · have hki : (k : Int) < (l.length : Int) := by omega
      obtain ⟨x, hxk⟩ : ∃ x, l[k]? = some x := ⟨_, List.getElem?_eq_getElem hlt⟩
      obtain ⟨b1, o1, k1, ev1, -, -, -, p0, p1, p2, p3, p4, p5⟩ := (HX.out.below hbz).item hxk
      obtain ⟨b2, o2, k2, ev2, -, -, -, q0, q1, q2, q3, q4, q5⟩ := (HY.out.below hbz).item hxk
      simp only [Value.slice.injEq] at ev1 ev2
      obtain ⟨rfl, -, rfl⟩ := ev1
      obtain ⟨rfl, -, rfl⟩ := ev2
      obtain ⟨x0, x1, x2, x3, x4, x5⟩ := x
      dsimp only at p0 p1 p2 p3 p4 p5 q0 q1 q2 q3 q4 q5
      clear hxk hbz
      go_upto_region 6 with fail
      go_quiet (fail)
      go_wp2_with fail
      go_roundw
      case rel => exact ⟨k + 1, hlt, by go_num, ⟨HBZ.out.os, HBZ.out.tape, HBZ.out.output, HBZ.out.size, HBZ.out.block⟩⟩
      case measure => simp [intOf]; omega
    · have hki : ¬ (k : Int) < (l.length : Int) := by omega
      clear hbz
      go_wp2_with fail
      go_ret
      exact ⟨rfl, HBZ.out⟩

section
open Go.ChangeShapes Go.WideShapes Go.Deep
def IsRequest (w : World) (v : Value) : Prop := ∃ x : Note.Q, v = .agg #[.int .u8 (x.cl : Int), .int .u32 (x.s : Int), .int .u8 (x.k : Int), .int .u8 (x.t : Int), .int .i64 x.kk, .int .i64 x.w, .int .u32 (x.j : Int)] ∧ x.wf ∧ w = w

set_option maxRecDepth 100000 in
set_option maxHeartbeats 1000000 in
theorem isRequest_of {H : Type} {enc : TypeId × Value → H} {w : World} {base b0 : Nat} {spare : Nat → Bool} {held : Bool} {r : Reach} {v : Value} {d : DataW H} {p : List MemPlace}
    (hv : Value.okWide Try.prog w r b0 33 v) (h : DataW.Trod enc Try.prog w base spare held 33 v d p) : IsRequest w v := by
  have hC : Try.prog.cellsOf 33 = 7 := by kernel_rfl
  have h_int : Try.prog.cellsOf 3 = 1 := by kernel_rfl
  have h_uint32 : Try.prog.cellsOf 30 = 1 := by kernel_rfl
  have h_uint8 : Try.prog.cellsOf 5 = 1 := by kernel_rfl
  obtain ⟨cs, rfl, hsz⟩ := okWide_struct Try.underlying33 hv
  rw [hC] at hsz
  obtain ⟨fuel, hf⟩ := h
  obtain ⟨xs, n', _, _, _, hxl, hfld⟩ := DataW.trod_struct Try.underlying33 hf
  obtain ⟨l⟩ := cs
  have f0 : DataW.trod enc Try.prog w base spare held n' 5 ((l.drop 0).take (Try.prog.cellsOf 5)) = xs[0]? := hfld 0 _ rfl
  rw [h_uint8] at f0
  have f1 : DataW.trod enc Try.prog w base spare held n' 30 ((l.drop 1).take (Try.prog.cellsOf 30)) = xs[1]? := hfld 1 _ rfl
  rw [h_uint32] at f1
  have f2 : DataW.trod enc Try.prog w base spare held n' 5 ((l.drop 2).take (Try.prog.cellsOf 5)) = xs[2]? := hfld 2 _ rfl
  rw [h_uint8] at f2
  have f3 : DataW.trod enc Try.prog w base spare held n' 5 ((l.drop 3).take (Try.prog.cellsOf 5)) = xs[3]? := hfld 3 _ rfl
  rw [h_uint8] at f3
  have f4 : DataW.trod enc Try.prog w base spare held n' 3 ((l.drop 4).take (Try.prog.cellsOf 3)) = xs[4]? := hfld 4 _ rfl
  rw [h_int] at f4
  have f5 : DataW.trod enc Try.prog w base spare held n' 3 ((l.drop 5).take (Try.prog.cellsOf 3)) = xs[5]? := hfld 5 _ rfl
  rw [h_int] at f5
  have f6 : DataW.trod enc Try.prog w base spare held n' 30 ((l.drop 6).take (Try.prog.cellsOf 30)) = xs[6]? := hfld 6 _ rfl
  rw [h_uint32] at f6
  match l, hsz with
  | [c0, c1, c2, c3, c4, c5, c6], _ =>
    match xs, hxl with
    | [y0, y1, y2, y3, y4, y5, y6], _ =>
      obtain ⟨d0, e0, _, wf0⟩ := DataW.trod_int Try.underlying5 (show _ = some y0 from f0)
      simp at e0
      subst e0
      have b0 := bounds_u8 wf0
      obtain ⟨n0, rfl⟩ := Int.eq_ofNat_of_zero_le (show 0 ≤ d0 by omega)
      obtain ⟨d1, e1, _, wf1⟩ := DataW.trod_int Try.underlying30 (show _ = some y1 from f1)
      simp at e1
      subst e1
      have b1 := bounds_u32 wf1
      obtain ⟨n1, rfl⟩ := Int.eq_ofNat_of_zero_le (show 0 ≤ d1 by omega)
      obtain ⟨d2, e2, _, wf2⟩ := DataW.trod_int Try.underlying5 (show _ = some y2 from f2)
      simp at e2
      subst e2
      have b2 := bounds_u8 wf2
      obtain ⟨n2, rfl⟩ := Int.eq_ofNat_of_zero_le (show 0 ≤ d2 by omega)
      obtain ⟨d3, e3, _, wf3⟩ := DataW.trod_int Try.underlying5 (show _ = some y3 from f3)
      simp at e3
      subst e3
      have b3 := bounds_u8 wf3
      obtain ⟨n3, rfl⟩ := Int.eq_ofNat_of_zero_le (show 0 ≤ d3 by omega)
      obtain ⟨d4, e4, _, wf4⟩ := DataW.trod_int Try.underlying3 (show _ = some y4 from f4)
      simp at e4
      subst e4
      have b4 := bounds_i64 wf4
      obtain ⟨d5, e5, _, wf5⟩ := DataW.trod_int Try.underlying3 (show _ = some y5 from f5)
      simp at e5
      subst e5
      have b5 := bounds_i64 wf5
      obtain ⟨d6, e6, _, wf6⟩ := DataW.trod_int Try.underlying30 (show _ = some y6 from f6)
      simp at e6
      subst e6
      have b6 := bounds_u32 wf6
      obtain ⟨n6, rfl⟩ := Int.eq_ofNat_of_zero_le (show 0 ≤ d6 by omega)
      exact ⟨⟨n0, n1, n2, n3, d4, d5, n6⟩, rfl, ⟨by simp only; omega, by simp only; omega, by simp only; omega, by simp only; omega, by simp only; omega, by simp only; omega, by simp only; omega, by simp only; omega, by simp only; omega⟩, rfl⟩
end

/-- What is so of a table to which nobody but Do spoke. -/
structure Tb.fair (t : Tb) : Prop where
  jw : ∀ x ∈ t.act ++ t.over, Jw x
  rs : ∀ (c : Nat) (r : Note.R), t.rs[c]? = some r → (r.s ≠ 0 → r.cl = c) ∧ r.e = 0 ∧ r.s ≤ 4294967295 ∧ r.j ≤ 4294967295
theorem fair_new (n : Nat) : (newTb n).fair := by
  refine ⟨fun x hx => (by cases hx), fun c r h => ?_⟩
  have : r = Note.R.zero := List.eq_of_mem_replicate (List.mem_of_getElem? h)
  subst this
  exact ⟨fun h => absurd rfl h, rfl, Nat.zero_le _, Nat.zero_le _⟩
theorem fair_ended {t : Tb} (h : t.fair) {i : Nat} {x y : Jb} (hx : t.act[i]? = some x) (hy : Jw y) : (t.ended i y).fair := by
  refine ⟨fun z hz => ?_, h.rs⟩
  rcases List.mem_append.1 hz with h1 | h1
  · exact h.jw z (List.mem_append_left _ ((List.eraseIdx_sublist _ _).subset h1))
  · rcases List.mem_append.1 (cut64_sub _ _ h1) with h2 | h2
    · exact h.jw z (List.mem_append_right _ h2)
    · rw [List.mem_singleton] at h2
      rw [h2]
      exact hy
theorem fair_cancel {t : Tb} (h : t.fair) (z : Nat) (hz : z ≤ 4294967295) : (t.cancel z).2.fair ∧ (t.cancel z).1.1 ≤ 4294967295 ∧ ((t.cancel z).1.2 ≠ 0 → (t.cancel z).1.1 = 0) := by
  unfold Tb.cancel
  rcases at_cases t z with ⟨_, e⟩ | ⟨_, _, e⟩ | ⟨_, i, x, _, hx, _, e⟩
  · rw [e]; exact ⟨h, Nat.zero_le _, fun _ => rfl⟩
  · rw [e]; exact ⟨h, Nat.zero_le _, fun _ => rfl⟩
  · rw [e]
    obtain ⟨a1, a2, a3, a4, a5⟩ := h.jw x (List.mem_append_left _ (List.mem_of_getElem? hx))
    exact ⟨fair_ended h hx ⟨a1, a2, a3, a4, a5⟩, hz, fun h => absurd rfl h⟩
theorem fair_submit {t : Tb} (h : t.fair) (hl : t.last < 100000) (q : Note.Q) (hq : q.wf) : (t.submit q).2.fair ∧ (t.submit q).1.1 ≤ 4294967295 ∧ ((t.submit q).1.2 ≠ 0 → (t.submit q).1.1 = 0) := by
  obtain ⟨q1, q2, q3, q4, q5, q6, q7, q8, q9⟩ := hq
  unfold Tb.submit
  split
  · exact ⟨h, Nat.zero_le _, fun _ => rfl⟩
  · rename_i hn
    split
    · exact ⟨h, Nat.zero_le _, fun _ => rfl⟩
    · split
      · exact ⟨h, Nat.zero_le _, fun _ => rfl⟩
      · refine ⟨⟨fun z hz => ?_, h.rs⟩, by show t.last + 1 ≤ _; omega, fun h => absurd rfl h⟩
        rcases List.mem_append.1 hz with h1 | h1
        · rcases List.mem_append.1 h1 with h2 | h2
          · exact h.jw z (List.mem_append_left _ h2)
          · rw [List.mem_singleton] at h2
            rw [h2]
            exact ⟨by show t.last + 1 ≤ _; omega, q4, ⟨by show 0 ≤ q.kk; omega, q6⟩, ⟨by show 0 ≤ q.w; omega, q8⟩, Int.le_refl _, by show (0 : Int) < _; omega⟩
        · exact h.jw z (List.mem_append_right _ h1)
theorem fair_change {t : Tb} (h : t.fair) (hl : t.last < 100000) (q : Note.Q) (hq : q.wf) : (t.change q).2.fair ∧ (t.change q).1.1 ≤ 4294967295 ∧ ((t.change q).1.2 ≠ 0 → (t.change q).1.1 = 0) := by
  unfold Tb.change
  split
  · exact fair_submit h hl q hq
  · exact fair_cancel h q.j (by have := hq.2.2.2.2.2.2.2.2; omega)
theorem turn_s {s l : Nat} (h : turn s l = 0) : s ≠ 0 := by
  unfold turn at h
  intro e
  rw [if_pos e] at h
  cases h
/-- What Do leaves; who is answered; what is refused. -/
theorem fair_do {t : Tb} (ho : t.ok) (h : t.fair) (hl : t.last < 100000) (q : Note.Q) (hq : q.wf) :
    (t.do q).2.fair ∧ ((t.do q).1.1.e = 0 → (t.do q).1.1.cl = q.cl ∧ (t.do q).1.1.s = q.s) ∧ ((t.do q).1.1.e ≠ 0 → (t.do q).1.2 = false ∧ (t.do q).2 = t ∧ (t.do q).1.1.j = 0) := by
  by_cases hk : q.k = 3
  · have e : t.do q = ((t.doQuery q, false), t) := by unfold Tb.do; rw [if_pos hk]
    rw [e]
    refine ⟨h, ?_⟩
    show ((t.doQuery q).e = 0 → (t.doQuery q).cl = q.cl ∧ (t.doQuery q).s = q.s) ∧ ((t.doQuery q).e ≠ 0 → false = false ∧ t = t ∧ (t.doQuery q).j = 0)
    unfold Tb.doQuery
    split
    · unfold Tb.tell
      split
      · exact ⟨fun _ => ⟨rfl, rfl⟩, fun h => absurd rfl h⟩
      · exact ⟨fun _ => ⟨rfl, rfl⟩, fun _ => ⟨rfl, rfl, rfl⟩⟩
    · exact ⟨fun _ => ⟨rfl, rfl⟩, fun _ => ⟨rfl, rfl, rfl⟩⟩
  · have e0 : t.do q = t.doPlain q := by unfold Tb.do; rw [if_neg hk]
    rw [e0]
    by_cases hr : q.right = true
    · obtain ⟨x, hx⟩ : ∃ x, x = t.rs.getD q.cl Note.R.zero := ⟨_, rfl⟩
      have hcl := right_cl hr
      have hxm : t.rs[q.cl]? = some x := by rw [hx, List.getD_eq_getElem?_getD, List.getElem?_eq_getElem (by rw [ho.r8]; exact hcl)]; rfl
      obtain ⟨x1, x2, x3, x4⟩ := h.rs q.cl x hxm
      by_cases ht : turn q.s x.s ≠ 0
      · have e : t.doPlain q = ((⟨q.cl, q.s, turn q.s x.s, 0, 0, 0⟩, false), t) := by unfold Tb.doPlain; rw [if_pos hr, ← hx, if_pos ht]
        rw [e]
        exact ⟨h, fun e => absurd e ht, fun _ => ⟨rfl, rfl, rfl⟩⟩
      · have ht0 : turn q.s x.s = 0 := Decidable.not_not.1 ht
        by_cases hs : q.s = x.s
        · have e : t.doPlain q = ((x, false), t) := by unfold Tb.doPlain; rw [if_pos hr, ← hx, if_neg ht, if_pos hs]
          rw [e]
          have hs0 := turn_s ht0
          exact ⟨h, fun _ => ⟨x1 (by rw [← hs]; exact hs0), hs.symm⟩, fun e => absurd x2 e⟩
        · obtain ⟨c1, c2, c3⟩ := fair_change h hl q hq
          obtain ⟨-, hrs, hcz⟩ := next_change ho q
          by_cases hz : (t.change q).1.2 ≠ 0
          · have e : t.doPlain q = ((⟨q.cl, q.s, (t.change q).1.2, (t.change q).1.1, 0, 0⟩, false), (t.change q).2) := by unfold Tb.doPlain; rw [if_pos hr, ← hx, if_neg ht, if_neg hs, if_pos hz]
            rw [e]
            exact ⟨c1, fun e => absurd e hz, fun _ => ⟨rfl, hcz hz, c3 hz⟩⟩
          · obtain ⟨r, hrr⟩ : ∃ r : Note.R, r = ⟨q.cl, q.s, 0, (t.change q).1.1, 0, 0⟩ := ⟨_, rfl⟩
            have e : t.doPlain q = ((r, true), { (t.change q).2 with rs := (t.change q).2.rs.set q.cl r }) := by unfold Tb.doPlain; rw [if_pos hr, ← hx, if_neg ht, if_neg hs, if_neg hz, hrr]
            rw [e, hrr]
            refine ⟨⟨c1.jw, fun c y hy => ?_⟩, fun _ => ⟨rfl, rfl⟩, fun e => absurd rfl e⟩
            have hy : ((t.change q).2.rs.set q.cl ⟨q.cl, q.s, 0, (t.change q).1.1, 0, 0⟩)[c]? = some y := hy
            rw [List.getElem?_set] at hy
            split at hy
            · rename_i hc
              split at hy
              · simp only [Option.some.injEq] at hy
                subst hy
                exact ⟨fun _ => hc, rfl, by have := hq.2.1; show q.s ≤ _; omega, c2⟩
              · cases hy
            · exact c1.rs c y hy
    · have e : t.doPlain q = ((⟨q.cl, q.s, 4, 0, 0, 0⟩, false), t) := by unfold Tb.doPlain; rw [if_neg hr]
      rw [e]
      exact ⟨h, fun e => absurd (show (4 : Int) = 0 from e) (by decide), fun _ => ⟨rfl, rfl, rfl⟩⟩

end Go.Proofs.Ytahiaifdfgkemaa
