/-
  Layer 5: the document's slab against the same plain state: where it lies; step, Arm.
-/
import Derived.Test.YtbchegbamcigkaaSlabP
import Derived.Test.YtbchegbamcigkaaAppG
namespace Go.Proofs.Ytbchegbamcigkaa
open Go.RowKit

/-- Where the blocks of the document's slab lie: from n on; its rows where P says. -/
structure Bs where
  n : Nat
  P : Nat → Prop

/-- v reads as l, and lies at the head of a block of bytes of the call's own. -/
def RowB (w : World) (base : Bs) (v : Value) (l : List UInt8) : Prop := Rd w v l ∧ ∃ g c cs, v = .slice (some ⟨g, 0, none⟩) l.length c ∧ base.P g ∧ w.heap[g]? = some (.cells cs 5 (0, 0))

theorem RowB.rd {w : World} {base : Bs} {v : Value} {l : List UInt8} (h : RowB w base v l) : Rd w v l := h.1

theorem RowB.keeps {S : Nat → Prop} {w w' : World} {base : Bs} {v : Value} {l : List UInt8} (h : RowB w base v l) (hk : Keeps S w w') (hS : ∀ g cs, base.P g → w.heap[g]? = some (.cells cs 5 (0, 0)) → ¬ S g) : RowB w' base v l := by
  obtain ⟨h1, g, c, cs, rfl, hb, hg⟩ := h
  have hn := hS g cs hb hg
  refine ⟨h1.keepsB hk (fun k e => ?_), g, c, cs, rfl, hb, (hk.block g (Array.getElem?_eq_some_iff.1 hg).1 hn).trans hg⟩
  have : g = k := Option.some.inj e
  subst this
  exact hn

theorem RowB.below {w w' : World} {base : Bs} {v : Value} {l : List UInt8} (h : RowB w base v l) (hb : Below w.heap.size w w') : RowB w' base v l := by
  obtain ⟨h1, g, c, cs, rfl, hb1, hg⟩ := h
  exact ⟨h1.below hb, g, c, cs, rfl, hb1, (hb.block g (Array.getElem?_eq_some_iff.1 hg).1).trans hg⟩

theorem RowB.of_own {w : World} {base : Bs} {b0 : Nat} {v : Value} {l : List UInt8} (h : Own w b0 v l) (h0 : 0 < l.length) (hP : ∀ g, b0 ≤ g → base.P g) : RowB w base v l := by
  refine ⟨h.rd, ?_⟩
  rcases h.2 with ⟨_, hn⟩ | ⟨g, cap, cur, rfl, hb, hg, _⟩
  · omega
  · exact ⟨g, cap, cur, rfl, hP g hb, hg⟩

def zv : Value := .slice none 0 0
def rwcells (x : Nat × Value) : List Value := [.int .i64 (x.1 : Int), x.2]

def DoneAt (w : World) (base : Bs) (gd cd : Nat) (n : Nat) (d : List UInt8) (DV : List Value) : Prop :=
  w.ownsRow base.n 31 1 (.slice (some ⟨gd, 0, none⟩) n cd) n DV ∧ ∀ i, i < n → RowB w base (DV.getD i zv) (sect d i)
def WayAt (w : World) (base : Bs) (wv : Value) (ws : List (Nat × List UInt8)) (PW : List (Nat × Value)) : Prop :=
  w.ownsRow base.n 108 2 wv ws.length (PW.flatMap rwcells) ∧ PW.length = ws.length ∧ ∀ i, i < ws.length → (PW.getD i (0, zv)).1 = (ws.getD i (0, [])).1 ∧ RowB w base (PW.getD i (0, zv)).2 (ws.getD i (0, [])).2

def RefAt (w : World) (base : Bs) (rb gd cd : Nat) (wv : Value) (s : Sl) : Prop :=
  w.heap[rb]? = some (.cells #[.slice (some ⟨gd, 0, none⟩) s.n cd, wv, .bool s.off, .int .i64 (s.armed : Int), .int .i64 (s.steps : Int)] 51 (0, 0)) ∧
  (∃ DV, DoneAt w base gd cd s.n s.done DV) ∧ (∃ PW, WayAt w base wv s.way PW) ∧ base.n ≤ rb ∧ s.ok

theorem owns_type {w : World} {base : Nat} {e : TypeId} {size : Nat} {v : Value} {n : Nat} {xs : List Value} (h : w.ownsRow base e size v n xs) : ∀ k, v.ownBlock = some k → ∃ cur, w.heap[k]? = some (.cells cur e (0, 0)) := by
  intro k hk
  rcases h.2 with ⟨rfl, hn⟩ | ⟨g, cap, cur, rfl, hb, hgg, _⟩
  · cases hk
  · have e : g = k := Option.some.inj hk
    subst e
    exact ⟨_, hgg⟩

theorem owns_to {w w' : World} {base : Nat} {e : TypeId} {size : Nat} {v : Value} {n : Nat} {xs : List Value} (h : w.ownsRow base e size v n xs) (hc : ∀ k, v.ownBlock = some k → w'.heap[k]? = w.heap[k]?) : w'.ownsRow base e size v n xs := by
  refine ⟨h.1, ?_⟩
  rcases h.2 with hn | ⟨g, cap, cur, rfl, hb, hgg, rest⟩
  · exact .inl hn
  · exact .inr ⟨g, cap, cur, rfl, hb, by rw [hc g rfl]; exact hgg, rest⟩

theorem DoneAt.keeps {S : Nat → Prop} {w w' : World} {base : Bs} {gd cd n : Nat} {d : List UInt8} {DV : List Value} (h : DoneAt w base gd cd n d DV) (hk : Keeps S w w') (h1 : ¬ S gd) (hS : ∀ g cs, base.P g → w.heap[g]? = some (.cells cs 5 (0, 0)) → ¬ S g) : DoneAt w' base gd cd n d DV :=
  ⟨owns_to h.1 fun k e => hk.block k (World.ownsRow.lt h.1 k e).2 (by have : gd = k := Option.some.inj e; subst this; exact h1), fun i hi => (h.2 i hi).keeps hk hS⟩
theorem WayAt.keeps {S : Nat → Prop} {w w' : World} {base : Bs} {wv : Value} {ws : List (Nat × List UInt8)} {PW : List (Nat × Value)} (h : WayAt w base wv ws PW) (hk : Keeps S w w') (h1 : ∀ k, wv.ownBlock = some k → ¬ S k) (hS : ∀ g cs, base.P g → w.heap[g]? = some (.cells cs 5 (0, 0)) → ¬ S g) : WayAt w' base wv ws PW :=
  ⟨owns_to h.1 fun k e => hk.block k (World.ownsRow.lt h.1 k e).2 (h1 k e), h.2.1, fun i hi => ⟨(h.2.2 i hi).1, (h.2.2 i hi).2.keeps hk hS⟩⟩

theorem RefAt.keeps {S : Nat → Prop} {w w' : World} {base : Bs} {rb gd cd : Nat} {wv : Value} {s : Sl} (h : RefAt w base rb gd cd wv s) (hk : Keeps S w w') (h1 : ¬ S rb) (h2 : ¬ S gd) (h3 : ∀ k, wv.ownBlock = some k → ¬ S k) (hS : ∀ g cs, base.P g → w.heap[g]? = some (.cells cs 5 (0, 0)) → ¬ S g) : RefAt w' base rb gd cd wv s := by
  obtain ⟨a, ⟨DV, hd⟩, ⟨PW, hp⟩, r⟩ := h
  exact ⟨(hk.block rb (Array.getElem?_eq_some_iff.1 a).1 h1).trans a, ⟨DV, hd.keeps hk h2 hS⟩, ⟨PW, hp.keeps hk h3 hS⟩, r⟩

theorem RefAt.below {w w' : World} {base : Bs} {rb gd cd : Nat} {wv : Value} {s : Sl} (h : RefAt w base rb gd cd wv s) (hb : Below w.heap.size w w') : RefAt w' base rb gd cd wv s := by
  obtain ⟨a, ⟨DV, hd⟩, ⟨PW, hp⟩, r⟩ := h
  refine ⟨(hb.block rb (Array.getElem?_eq_some_iff.1 a).1).trans a, ⟨DV, owns_to hd.1 fun k e => hb.block k (World.ownsRow.lt hd.1 k e).2, fun i hi => (hd.2 i hi).below hb⟩, ⟨PW, owns_to hp.1 fun k e => hb.block k (World.ownsRow.lt hp.1 k e).2, hp.2.1, fun i hi => ⟨(hp.2.2 i hi).1, (hp.2.2 i hi).2.below hb⟩⟩, r⟩

theorem RefAt.okay {w : World} {base : Bs} {rb gd cd : Nat} {wv : Value} {s : Sl} (h : RefAt w base rb gd cd wv s) : s.ok := h.2.2.2.2

/-- Which blocks are which, by their types. -/
theorem RefAt.apart {w : World} {base : Bs} {rb gd cd : Nat} {wv : Value} {s : Sl} (h : RefAt w base rb gd cd wv s) : rb ≠ gd ∧ (∀ k, wv.ownBlock = some k → k ≠ rb ∧ k ≠ gd) ∧ (∀ g cs, w.heap[g]? = some (.cells cs 5 (0, 0)) → g ≠ rb ∧ g ≠ gd ∧ wv.ownBlock ≠ some g) ∧ base.n ≤ gd ∧ rb < w.heap.size ∧ gd < w.heap.size := by
  obtain ⟨a, ⟨DV, hd⟩, ⟨PW, hp⟩, hb, _⟩ := h
  obtain ⟨cur, hg⟩ := owns_type hd.1 gd rfl
  have hlt := World.ownsRow.lt hd.1 gd rfl
  refine ⟨fun e => ?_, fun k hk => ?_, fun g cs hgs => ⟨fun e => ?_, fun e => ?_, fun e => ?_⟩, hlt.1, (Array.getElem?_eq_some_iff.1 a).1, hlt.2⟩
  · subst e; rw [a] at hg; simp only [Option.some.injEq, Obj.cells.injEq] at hg; exact absurd hg.2.1 (by decide)
  · obtain ⟨cur2, hk2⟩ := owns_type hp.1 k hk
    refine ⟨fun e => ?_, fun e => ?_⟩
    · subst e; rw [a] at hk2; simp only [Option.some.injEq, Obj.cells.injEq] at hk2; exact absurd hk2.2.1 (by decide)
    · subst e; rw [hg] at hk2; simp only [Option.some.injEq, Obj.cells.injEq] at hk2; exact absurd hk2.2.1 (by decide)
  · subst e; rw [a] at hgs; simp only [Option.some.injEq, Obj.cells.injEq] at hgs; exact absurd hgs.2.1 (by decide)
  · subst e; rw [hg] at hgs; simp only [Option.some.injEq, Obj.cells.injEq] at hgs; exact absurd hgs.2.1 (by decide)
  · obtain ⟨cur2, hk2⟩ := owns_type hp.1 g e
    rw [hk2] at hgs; simp only [Option.some.injEq, Obj.cells.injEq] at hgs; exact absurd hgs.2.1 (by decide)

theorem RefAt.cells {w : World} {base : Bs} {rb gd cd : Nat} {wv : Value} {s : Sl} (h : RefAt w base rb gd cd wv s) :
    w.cell? ⟨rb, 0, none⟩ = some (.slice (some ⟨gd, 0, none⟩) s.n cd) ∧ w.cell? ⟨rb, 1, none⟩ = some wv ∧ w.cell? ⟨rb, 2, none⟩ = some (.bool s.off) ∧ w.cell? ⟨rb, 3, none⟩ = some (.int .i64 (s.armed : Int)) ∧
    w.cell? ⟨rb, 4, none⟩ = some (.int .i64 (s.steps : Int)) ∧ ∀ j, w.frozen? ⟨rb, j, none⟩ = false :=
  ⟨(cell_of_row _ _ _ _ _ _ h.1).trans rfl, (cell_of_row _ _ _ _ _ _ h.1).trans rfl, (cell_of_row _ _ _ _ _ _ h.1).trans rfl, (cell_of_row _ _ _ _ _ _ h.1).trans rfl, (cell_of_row _ _ _ _ _ _ h.1).trans rfl, fun _ => frozen_of_row _ _ _ _ _ h.1⟩

/-- The head is written anew; all else is as it was. -/
theorem RefAt.head {w w' : World} {base : Bs} {rb gd cd : Nat} {wv : Value} {s s' : Sl} (h : RefAt w base rb gd cd wv s) (hk : Keeps (fun k => k = rb) w w')
    (hb : w'.heap[rb]? = some (.cells #[.slice (some ⟨gd, 0, none⟩) s'.n cd, wv, .bool s'.off, .int .i64 (s'.armed : Int), .int .i64 (s'.steps : Int)] 51 (0, 0)))
    (e0 : s'.n = s.n) (e2 : s'.done = s.done) (e3 : s'.way = s.way) (hok : s'.ok) : RefAt w' base rb gd cd wv s' := by
  obtain ⟨p1, p2, p3, p4, p5, p6⟩ := h.apart
  obtain ⟨a, ⟨DV, hd⟩, ⟨PW, hp⟩, hbb, _⟩ := h
  refine ⟨hb, ⟨DV, ?_⟩, ⟨PW, ?_⟩, hbb, hok⟩
  · rw [e0, e2]; exact hd.keeps hk (fun e => p1 e.symm) (fun g cs _ hg => (p3 g cs hg).1)
  · rw [e3]; exact hp.keeps hk (fun k hk' => (p2 k hk').1) (fun g cs _ hg => (p3 g cs hg).1)

set_option maxHeartbeats 1000000 in
theorem refstep_any (base : Bs) (rb gd cd : Nat) (wv : Value) (s : Sl) (w : World) (h : RefAt w base rb gd cd wv s) (hst : s.steps ≤ 1000000) :
    Calls Try.prog 51 #[.pointer (some ⟨rb, 0, none⟩)] w fun e w' => e = .returned (.bool (!s.step.off)) ∧ RefAt w' base rb gd cd wv s.step ∧ Keeps (fun k => k = rb) w w' := by
  obtain ⟨c0, c1, c2, c3, c4, hf⟩ := h.cells
  have hok := h.okay
  have f2 := hf 2
  have f3 := hf 3
  have f4 := hf 4
  have H := hid h
  have HOK := hid hok
  have ha7 : s.armed ≤ 9223372036854775807 := hok.2.2.2.2.2.2
  have hK2 : ∀ (u v : Value), Keeps (fun k => k = rb) w ((w.setCell ⟨rb, 4, none⟩ u).setCell ⟨rb, 3, none⟩ v) := fun u v => (keeps_set _ _ _ _).trans (keeps_set _ _ _ _)
  have hK3 : ∀ (u v x : Value), Keeps (fun k => k = rb) w (((w.setCell ⟨rb, 4, none⟩ u).setCell ⟨rb, 2, none⟩ v).setCell ⟨rb, 3, none⟩ x) := fun u v x => ((keeps_set _ _ _ _).trans (keeps_set _ _ _ _)).trans (keeps_set _ _ _ _)
  have HK2 := hid hK2
  have HK3 := hid hK3
  clear hf h hok hK2 hK3
  by_cases h0 : s.armed = 0
  · have HS := hid (show s.step = { s with steps := s.steps + 1 } by unfold Sl.step; rw [h0]; simp)
    have hb0 : ¬ (0 : Int) < (s.armed : Int) := by omega
    have hb1 : (((s.armed : Int)) == 1) = false := by rw [beq_eq_false_iff_ne]; omega
    have hb2 : ¬ (s.armed : Int) = 1 := by omega
    clear h0
    obtain ⟨of, hof⟩ : ∃ of, of = s.off := ⟨_, rfl⟩
    rw [← hof] at c2
    have HOF := hid hof
    clear hof
    go_enter Try.func51, Try.ntmps51
    go_wp2
    go_ret
    refine ⟨by rw [HS.out, HOF.out]; rfl, ?_, keeps_set _ _ _ _⟩
    rw [HS.out]
    refine H.out.head (keeps_set _ _ _ _) ?_ rfl rfl rfl ?_
    · exact (heap_setCell_same _ _ _ _ _ _ H.out.1).trans (by simp)
    · obtain ⟨o1, o2, o3, o4, o5, o6, o7⟩ := HOK.out
      exact ⟨o1, o2, o3, o4, o5, o6, o7⟩
  · have hp : (0 : Int) < (s.armed : Int) := by omega
    by_cases h1 : s.armed = 1
    · have HS := hid (show s.step = { s with steps := s.steps + 1, armed := 0, off := true } by unfold Sl.step; rw [h1]; simp)
      have hb1 : (((s.armed : Int)) == 1) = true := by rw [beq_iff_eq]; omega
      have HA := hid (show (s.armed : Int) - 1 = ((0 : Nat) : Int) by omega)
      clear h0 h1
      go_enter Try.func51, Try.ntmps51
      go_wp2
      go_ret
      refine ⟨by rw [HS.out]; rfl, ?_, HK3.out _ _ _⟩
      rw [HS.out]
      refine H.out.head (HK3.out _ _ _) ?_ rfl rfl rfl ?_
      · rw [heap_setCell_same _ _ _ _ _ _ (heap_setCell_same _ _ _ _ _ _ (heap_setCell_same _ _ _ _ _ _ H.out.1))]
        first | (rw [HA.out]; simp; done) | (simp; done) | (have := HA.out; simp; omega)
      · obtain ⟨o1, o2, o3, o4, o5, o6, o7⟩ := HOK.out
        exact ⟨o1, o2, o3, o4, o5, o6, by simp only; omega⟩
    · have HS := hid (show s.step = { s with steps := s.steps + 1, armed := s.armed - 1 } by unfold Sl.step; simp [h1])
      have hb1 : (((s.armed : Int)) == 1) = false := by rw [beq_eq_false_iff_ne]; omega
      have hb2 : ¬ (s.armed : Int) = 1 := by omega
      have HA := hid (show (s.armed : Int) - 1 = ((s.armed - 1 : Nat) : Int) by omega)
      obtain ⟨of, hof⟩ : ∃ of, of = s.off := ⟨_, rfl⟩
      rw [← hof] at c2
      have HOF := hid hof
      clear h0 h1 hof
      go_enter Try.func51, Try.ntmps51
      go_wp2
      go_ret
      refine ⟨by rw [HS.out, HOF.out]; rfl, ?_, HK2.out _ _⟩
      rw [HS.out]
      refine H.out.head (HK2.out _ _) ?_ rfl rfl rfl ?_
      · rw [heap_setCell_same _ _ _ _ _ _ (heap_setCell_same _ _ _ _ _ _ H.out.1), HA.out]
        simp
      · obtain ⟨o1, o2, o3, o4, o5, o6, o7⟩ := HOK.out
        exact ⟨o1, o2, o3, o4, o5, o6, by simp only; omega⟩

theorem refarm_nil (n : Int) (w : World) :
    Calls Try.prog 25 #[.pointer none, .int .i64 n] w fun e w' => e = .returned (.int .i64 6) ∧ w = w' := by
  go_enter Try.func25, Try.ntmps25
  go_wp2
  go_ret
  exact ⟨rfl, rfl⟩

theorem refarm_all (base : Bs) (rb gd cd : Nat) (wv : Value) (s : Sl) (n : Int) (w : World) (h : RefAt w base rb gd cd wv s) (hn : n ≤ 9223372036854775807) :
    Calls Try.prog 25 #[.pointer (some ⟨rb, 0, none⟩), .int .i64 n] w fun e w' => e = .returned (.int .i64 (s.arm n).2) ∧ RefAt w' base rb gd cd wv (s.arm n).1 ∧ Keeps (fun k => k = rb) w w' := by
  obtain ⟨c0, c1, c2, c3, c4, hf⟩ := h.cells
  have f3 := hf 3
  have H := hid h
  clear hf h
  by_cases h0 : n < 0
  · have HE := hid (show s.arm n = (s, 1) by unfold Sl.arm; rw [if_pos h0])
    go_enter Try.func25, Try.ntmps25
    go_wp2
    go_ret
    rw [HE.out]
    exact ⟨rfl, H.out, Keeps.refl _ _⟩
  · obtain ⟨j, rfl⟩ := Int.eq_ofNat_of_zero_le (by omega : 0 ≤ n)
    have HE := hid (show s.arm (j : Int) = ({ s with armed := j }, 0) by unfold Sl.arm; rw [if_neg h0, Int.toNat_natCast])
    go_enter Try.func25, Try.ntmps25
    go_wp2
    go_ret
    rw [HE.out]
    refine ⟨rfl, ?_, keeps_set _ _ _ _⟩
    refine H.out.head (keeps_set _ _ _ _) ?_ rfl rfl rfl ?_
    · exact (heap_setCell_same _ _ _ _ _ _ H.out.1).trans (by simp)
    · obtain ⟨o1, o2, o3, o4, o5, o6, o7⟩ := H.out.okay
      exact ⟨o1, o2, o3, o4, o5, o6, by simp only; omega⟩

end Go.Proofs.Ytbchegbamcigkaa
