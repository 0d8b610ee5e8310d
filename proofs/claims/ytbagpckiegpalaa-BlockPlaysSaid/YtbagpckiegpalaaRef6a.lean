/-
  Layer 5: the document's slab against the same plain state: where it lies; step, Arm.
  Layer 5: the document's Put.
  Layer 5: the document's Put whole, and Get.
  Layer 5: the document's Get whole, and Flush.
  Layer 5: the document's Flush whole, and Crash.
  Layer 5: the document's New.
  The code's slab and the document's side by side.
-/
import Derived.Test.YtbagpckiegpalaaSlabP
import Derived.Test.YtbagpckiegpalaaAppG
import Derived.Laws.BitsAllLaws
namespace Go.Proofs.Ytbagpckiegpalaa
open Go.RowKit

/-- Where the blocks of the document's slab lie: from n on; its rows where P says. -/
structure Bs where
  n : Nat
  P : Nat → Prop

/-- v reads as l, and lies at the head of a block of bytes of the call's own. -/
def RowB (w : World) (base : Bs) (v : Value) (l : List UInt8) : Prop := Rd w v l ∧ ∃ g c cs, v = .slice (some ⟨g, 0, none⟩) l.length c ∧ base.P g ∧ w.heap[g]? = some (.cells cs 5 (0, 0))

theorem RowB.rd {w : World} {base : Bs} {v : Value} {l : List UInt8} (h : RowB w base v l) : Rd w v l := h.1

theorem RowB.keeps {S : Nat → Prop} {w w' : World} {base : Bs} {v : Value} {l : List UInt8} (h : RowB w base v l) (hk : Keeps S w w') (hS : ∀ g cs, base.P g → w.heap[g]? = some (.cells cs 5 (0, 0)) → ¬ S g) : RowB w' base v l := by
  obtain ⟨h1, g, c, cs, rfl, hb, hg⟩ := h
  have hn := hS g cs hb hg
  refine ⟨h1.keepsB hk (fun k e => ?_), g, c, cs, rfl, hb, (hk.block g (Array.getElem?_eq_some_iff.1 hg).1 hn).trans hg⟩
  have : g = k := Option.some.inj e
  subst this
  exact hn

theorem RowB.below {w w' : World} {base : Bs} {v : Value} {l : List UInt8} (h : RowB w base v l) (hb : Below w.heap.size w w') : RowB w' base v l := by
  obtain ⟨h1, g, c, cs, rfl, hb1, hg⟩ := h
  exact ⟨h1.below hb, g, c, cs, rfl, hb1, (hb.block g (Array.getElem?_eq_some_iff.1 hg).1).trans hg⟩

theorem RowB.of_own {w : World} {base : Bs} {b0 : Nat} {v : Value} {l : List UInt8} (h : Own w b0 v l) (h0 : 0 < l.length) (hP : ∀ g, b0 ≤ g → base.P g) : RowB w base v l := by
  refine ⟨h.rd, ?_⟩
  rcases h.2 with ⟨_, hn⟩ | ⟨g, cap, cur, rfl, hb, hg, _⟩
  · omega
  · exact ⟨g, cap, cur, rfl, hP g hb, hg⟩

def zv : Value := .slice none 0 0
def rwcells (x : Nat × Value) : List Value := [.int .i64 (x.1 : Int), x.2]

def DoneAt (w : World) (base : Bs) (gd cd : Nat) (n : Nat) (d : List UInt8) (DV : List Value) : Prop :=
  w.ownsRow base.n 32 1 (.slice (some ⟨gd, 0, none⟩) n cd) n DV ∧ ∀ i, i < n → RowB w base (DV.getD i zv) (sect d i)
def WayAt (w : World) (base : Bs) (wv : Value) (ws : List (Nat × List UInt8)) (PW : List (Nat × Value)) : Prop :=
  w.ownsRow base.n 103 2 wv ws.length (PW.flatMap rwcells) ∧ PW.length = ws.length ∧ ∀ i, i < ws.length → (PW.getD i (0, zv)).1 = (ws.getD i (0, [])).1 ∧ RowB w base (PW.getD i (0, zv)).2 (ws.getD i (0, [])).2

def RefAt (w : World) (base : Bs) (rb gd cd : Nat) (wv : Value) (s : Sl) : Prop :=
  w.heap[rb]? = some (.cells #[.slice (some ⟨gd, 0, none⟩) s.n cd, wv, .bool s.off, .int .i64 (s.armed : Int), .int .i64 (s.steps : Int)] 89 (0, 0)) ∧
  (∃ DV, DoneAt w base gd cd s.n s.done DV) ∧ (∃ PW, WayAt w base wv s.way PW) ∧ base.n ≤ rb ∧ s.ok

theorem owns_type {w : World} {base : Nat} {e : TypeId} {size : Nat} {v : Value} {n : Nat} {xs : List Value} (h : w.ownsRow base e size v n xs) : ∀ k, v.ownBlock = some k → ∃ cur, w.heap[k]? = some (.cells cur e (0, 0)) := by
  intro k hk
  rcases h.2 with ⟨rfl, hn⟩ | ⟨g, cap, cur, rfl, hb, hgg, _⟩
  · cases hk
  · have e : g = k := Option.some.inj hk
    subst e
    exact ⟨_, hgg⟩

theorem owns_to {w w' : World} {base : Nat} {e : TypeId} {size : Nat} {v : Value} {n : Nat} {xs : List Value} (h : w.ownsRow base e size v n xs) (hc : ∀ k, v.ownBlock = some k → w'.heap[k]? = w.heap[k]?) : w'.ownsRow base e size v n xs := by
  refine ⟨h.1, ?_⟩
  rcases h.2 with hn | ⟨g, cap, cur, rfl, hb, hgg, rest⟩
  · exact .inl hn
  · exact .inr ⟨g, cap, cur, rfl, hb, by rw [hc g rfl]; exact hgg, rest⟩

theorem DoneAt.keeps {S : Nat → Prop} {w w' : World} {base : Bs} {gd cd n : Nat} {d : List UInt8} {DV : List Value} (h : DoneAt w base gd cd n d DV) (hk : Keeps S w w') (h1 : ¬ S gd) (hS : ∀ g cs, base.P g → w.heap[g]? = some (.cells cs 5 (0, 0)) → ¬ S g) : DoneAt w' base gd cd n d DV :=
  ⟨owns_to h.1 fun k e => hk.block k (World.ownsRow.lt h.1 k e).2 (by have : gd = k := Option.some.inj e; subst this; exact h1), fun i hi => (h.2 i hi).keeps hk hS⟩
theorem WayAt.keeps {S : Nat → Prop} {w w' : World} {base : Bs} {wv : Value} {ws : List (Nat × List UInt8)} {PW : List (Nat × Value)} (h : WayAt w base wv ws PW) (hk : Keeps S w w') (h1 : ∀ k, wv.ownBlock = some k → ¬ S k) (hS : ∀ g cs, base.P g → w.heap[g]? = some (.cells cs 5 (0, 0)) → ¬ S g) : WayAt w' base wv ws PW :=
  ⟨owns_to h.1 fun k e => hk.block k (World.ownsRow.lt h.1 k e).2 (h1 k e), h.2.1, fun i hi => ⟨(h.2.2 i hi).1, (h.2.2 i hi).2.keeps hk hS⟩⟩

theorem RefAt.keeps {S : Nat → Prop} {w w' : World} {base : Bs} {rb gd cd : Nat} {wv : Value} {s : Sl} (h : RefAt w base rb gd cd wv s) (hk : Keeps S w w') (h1 : ¬ S rb) (h2 : ¬ S gd) (h3 : ∀ k, wv.ownBlock = some k → ¬ S k) (hS : ∀ g cs, base.P g → w.heap[g]? = some (.cells cs 5 (0, 0)) → ¬ S g) : RefAt w' base rb gd cd wv s := by
  obtain ⟨a, ⟨DV, hd⟩, ⟨PW, hp⟩, r⟩ := h
  exact ⟨(hk.block rb (Array.getElem?_eq_some_iff.1 a).1 h1).trans a, ⟨DV, hd.keeps hk h2 hS⟩, ⟨PW, hp.keeps hk h3 hS⟩, r⟩

theorem RefAt.below {w w' : World} {base : Bs} {rb gd cd : Nat} {wv : Value} {s : Sl} (h : RefAt w base rb gd cd wv s) (hb : Below w.heap.size w w') : RefAt w' base rb gd cd wv s := by
  obtain ⟨a, ⟨DV, hd⟩, ⟨PW, hp⟩, r⟩ := h
  refine ⟨(hb.block rb (Array.getElem?_eq_some_iff.1 a).1).trans a, ⟨DV, owns_to hd.1 fun k e => hb.block k (World.ownsRow.lt hd.1 k e).2, fun i hi => (hd.2 i hi).below hb⟩, ⟨PW, owns_to hp.1 fun k e => hb.block k (World.ownsRow.lt hp.1 k e).2, hp.2.1, fun i hi => ⟨(hp.2.2 i hi).1, (hp.2.2 i hi).2.below hb⟩⟩, r⟩

theorem RefAt.okay {w : World} {base : Bs} {rb gd cd : Nat} {wv : Value} {s : Sl} (h : RefAt w base rb gd cd wv s) : s.ok := h.2.2.2.2

/-- Which blocks are which, by their types. -/
theorem RefAt.apart {w : World} {base : Bs} {rb gd cd : Nat} {wv : Value} {s : Sl} (h : RefAt w base rb gd cd wv s) : rb ≠ gd ∧ (∀ k, wv.ownBlock = some k → k ≠ rb ∧ k ≠ gd) ∧ (∀ g cs, w.heap[g]? = some (.cells cs 5 (0, 0)) → g ≠ rb ∧ g ≠ gd ∧ wv.ownBlock ≠ some g) ∧ base.n ≤ gd ∧ rb < w.heap.size ∧ gd < w.heap.size := by
  obtain ⟨a, ⟨DV, hd⟩, ⟨PW, hp⟩, hb, _⟩ := h
  obtain ⟨cur, hg⟩ := owns_type hd.1 gd rfl
  have hlt := World.ownsRow.lt hd.1 gd rfl
  refine ⟨fun e => ?_, fun k hk => ?_, fun g cs hgs => ⟨fun e => ?_, fun e => ?_, fun e => ?_⟩, hlt.1, (Array.getElem?_eq_some_iff.1 a).1, hlt.2⟩
  · subst e; rw [a] at hg; simp only [Option.some.injEq, Obj.cells.injEq] at hg; exact absurd hg.2.1 (by decide)
  · obtain ⟨cur2, hk2⟩ := owns_type hp.1 k hk
    refine ⟨fun e => ?_, fun e => ?_⟩
    · subst e; rw [a] at hk2; simp only [Option.some.injEq, Obj.cells.injEq] at hk2; exact absurd hk2.2.1 (by decide)
    · subst e; rw [hg] at hk2; simp only [Option.some.injEq, Obj.cells.injEq] at hk2; exact absurd hk2.2.1 (by decide)
  · subst e; rw [a] at hgs; simp only [Option.some.injEq, Obj.cells.injEq] at hgs; exact absurd hgs.2.1 (by decide)
  · subst e; rw [hg] at hgs; simp only [Option.some.injEq, Obj.cells.injEq] at hgs; exact absurd hgs.2.1 (by decide)
  · obtain ⟨cur2, hk2⟩ := owns_type hp.1 g e
    rw [hk2] at hgs; simp only [Option.some.injEq, Obj.cells.injEq] at hgs; exact absurd hgs.2.1 (by decide)

theorem RefAt.cells {w : World} {base : Bs} {rb gd cd : Nat} {wv : Value} {s : Sl} (h : RefAt w base rb gd cd wv s) :
    w.cell? ⟨rb, 0, none⟩ = some (.slice (some ⟨gd, 0, none⟩) s.n cd) ∧ w.cell? ⟨rb, 1, none⟩ = some wv ∧ w.cell? ⟨rb, 2, none⟩ = some (.bool s.off) ∧ w.cell? ⟨rb, 3, none⟩ = some (.int .i64 (s.armed : Int)) ∧
    w.cell? ⟨rb, 4, none⟩ = some (.int .i64 (s.steps : Int)) ∧ ∀ j, w.frozen? ⟨rb, j, none⟩ = false :=
  ⟨(cell_of_row _ _ _ _ _ _ h.1).trans rfl, (cell_of_row _ _ _ _ _ _ h.1).trans rfl, (cell_of_row _ _ _ _ _ _ h.1).trans rfl, (cell_of_row _ _ _ _ _ _ h.1).trans rfl, (cell_of_row _ _ _ _ _ _ h.1).trans rfl, fun _ => frozen_of_row _ _ _ _ _ h.1⟩

/-- The head is written anew; all else is as it was. -/
theorem RefAt.head {w w' : World} {base : Bs} {rb gd cd : Nat} {wv : Value} {s s' : Sl} (h : RefAt w base rb gd cd wv s) (hk : Keeps (fun k => k = rb) w w')
    (hb : w'.heap[rb]? = some (.cells #[.slice (some ⟨gd, 0, none⟩) s'.n cd, wv, .bool s'.off, .int .i64 (s'.armed : Int), .int .i64 (s'.steps : Int)] 89 (0, 0)))
    (e0 : s'.n = s.n) (e2 : s'.done = s.done) (e3 : s'.way = s.way) (hok : s'.ok) : RefAt w' base rb gd cd wv s' := by
  obtain ⟨p1, p2, p3, p4, p5, p6⟩ := h.apart
  obtain ⟨a, ⟨DV, hd⟩, ⟨PW, hp⟩, hbb, _⟩ := h
  refine ⟨hb, ⟨DV, ?_⟩, ⟨PW, ?_⟩, hbb, hok⟩
  · rw [e0, e2]; exact hd.keeps hk (fun e => p1 e.symm) (fun g cs _ hg => (p3 g cs hg).1)
  · rw [e3]; exact hp.keeps hk (fun k hk' => (p2 k hk').1) (fun g cs _ hg => (p3 g cs hg).1)

set_option maxHeartbeats 1000000 in
theorem refstep_any (base : Bs) (rb gd cd : Nat) (wv : Value) (s : Sl) (w : World) (h : RefAt w base rb gd cd wv s) (hst : s.steps ≤ 1000000) :
    Calls Try.prog 45 #[.pointer (some ⟨rb, 0, none⟩)] w fun e w' => e = .returned (.bool (!s.step.off)) ∧ RefAt w' base rb gd cd wv s.step ∧ Keeps (fun k => k = rb) w w' := by
  obtain ⟨c0, c1, c2, c3, c4, hf⟩ := h.cells
  have hok := h.okay
  have f2 := hf 2
  have f3 := hf 3
  have f4 := hf 4
  have H := hid h
  have HOK := hid hok
  have ha7 : s.armed ≤ 9223372036854775807 := hok.2.2.2.2.2.2
  have hK2 : ∀ (u v : Value), Keeps (fun k => k = rb) w ((w.setCell ⟨rb, 4, none⟩ u).setCell ⟨rb, 3, none⟩ v) := fun u v => (keeps_set _ _ _ _).trans (keeps_set _ _ _ _)
  have hK3 : ∀ (u v x : Value), Keeps (fun k => k = rb) w (((w.setCell ⟨rb, 4, none⟩ u).setCell ⟨rb, 2, none⟩ v).setCell ⟨rb, 3, none⟩ x) := fun u v x => ((keeps_set _ _ _ _).trans (keeps_set _ _ _ _)).trans (keeps_set _ _ _ _)
  have HK2 := hid hK2
  have HK3 := hid hK3
  clear hf h hok hK2 hK3
  by_cases h0 : s.armed = 0
  · have HS := hid (show s.step = { s with steps := s.steps + 1 } by unfold Sl.step; rw [h0]; simp)
    have hb0 : ¬ (0 : Int) < (s.armed : Int) := by omega
    have hb1 : (((s.armed : Int)) == 1) = false := by rw [beq_eq_false_iff_ne]; omega
    have hb2 : ¬ (s.armed : Int) = 1 := by omega
    clear h0
    obtain ⟨of, hof⟩ : ∃ of, of = s.off := ⟨_, rfl⟩
    rw [← hof] at c2
    have HOF := hid hof
    clear hof
    go_enter Try.func45, Try.ntmps45
    go_wp2
    go_ret
    refine ⟨by rw [HS.out, HOF.out]; rfl, ?_, keeps_set _ _ _ _⟩
    rw [HS.out]
    refine H.out.head (keeps_set _ _ _ _) ?_ rfl rfl rfl ?_
    · exact (heap_setCell_same _ _ _ _ _ _ H.out.1).trans (by simp)
    · obtain ⟨o1, o2, o3, o4, o5, o6, o7⟩ := HOK.out
      exact ⟨o1, o2, o3, o4, o5, o6, o7⟩
  · have hp : (0 : Int) < (s.armed : Int) := by omega
    by_cases h1 : s.armed = 1
    · have HS := hid (show s.step = { s with steps := s.steps + 1, armed := 0, off := true } by unfold Sl.step; rw [h1]; simp)
      have hb1 : (((s.armed : Int)) == 1) = true := by rw [beq_iff_eq]; omega
      have HA := hid (show (s.armed : Int) - 1 = ((0 : Nat) : Int) by omega)
      clear h0 h1
      go_enter Try.func45, Try.ntmps45
      go_wp2
      go_ret
      refine ⟨by rw [HS.out]; rfl, ?_, HK3.out _ _ _⟩
      rw [HS.out]
      refine H.out.head (HK3.out _ _ _) ?_ rfl rfl rfl ?_
      · rw [heap_setCell_same _ _ _ _ _ _ (heap_setCell_same _ _ _ _ _ _ (heap_setCell_same _ _ _ _ _ _ H.out.1))]
        first | (rw [HA.out]; simp; done) | (simp; done) | (have := HA.out; simp; omega)
      · obtain ⟨o1, o2, o3, o4, o5, o6, o7⟩ := HOK.out
        exact ⟨o1, o2, o3, o4, o5, o6, by simp only; omega⟩
    · have HS := hid (show s.step = { s with steps := s.steps + 1, armed := s.armed - 1 } by unfold Sl.step; simp [h1])
      have hb1 : (((s.armed : Int)) == 1) = false := by rw [beq_eq_false_iff_ne]; omega
      have hb2 : ¬ (s.armed : Int) = 1 := by omega
      have HA := hid (show (s.armed : Int) - 1 = ((s.armed - 1 : Nat) : Int) by omega)
      obtain ⟨of, hof⟩ : ∃ of, of = s.off := ⟨_, rfl⟩
      rw [← hof] at c2
      have HOF := hid hof
      clear h0 h1 hof
      go_enter Try.func45, Try.ntmps45
      go_wp2
      go_ret
      refine ⟨by rw [HS.out, HOF.out]; rfl, ?_, HK2.out _ _⟩
      rw [HS.out]
      refine H.out.head (HK2.out _ _) ?_ rfl rfl rfl ?_
      · rw [heap_setCell_same _ _ _ _ _ _ (heap_setCell_same _ _ _ _ _ _ H.out.1), HA.out]
        simp
      · obtain ⟨o1, o2, o3, o4, o5, o6, o7⟩ := HOK.out
        exact ⟨o1, o2, o3, o4, o5, o6, by simp only; omega⟩

theorem refarm_nil (n : Int) (w : World) :
    Calls Try.prog 28 #[.pointer none, .int .i64 n] w fun e w' => e = .returned (.int .i64 6) ∧ w = w' := by
  go_enter Try.func28, Try.ntmps28
  go_wp2
  go_ret
  exact ⟨rfl, rfl⟩

theorem refarm_all (base : Bs) (rb gd cd : Nat) (wv : Value) (s : Sl) (n : Int) (w : World) (h : RefAt w base rb gd cd wv s) (hn : n ≤ 9223372036854775807) :
    Calls Try.prog 28 #[.pointer (some ⟨rb, 0, none⟩), .int .i64 n] w fun e w' => e = .returned (.int .i64 (s.arm n).2) ∧ RefAt w' base rb gd cd wv (s.arm n).1 ∧ Keeps (fun k => k = rb) w w' := by
  obtain ⟨c0, c1, c2, c3, c4, hf⟩ := h.cells
  have f3 := hf 3
  have H := hid h
  clear hf h
  by_cases h0 : n < 0
  · have HE := hid (show s.arm n = (s, 1) by unfold Sl.arm; rw [if_pos h0])
    go_enter Try.func28, Try.ntmps28
    go_wp2
    go_ret
    rw [HE.out]
    exact ⟨rfl, H.out, Keeps.refl _ _⟩
  · obtain ⟨j, rfl⟩ := Int.eq_ofNat_of_zero_le (by omega : 0 ≤ n)
    have HE := hid (show s.arm (j : Int) = ({ s with armed := j }, 0) by unfold Sl.arm; rw [if_neg h0, Int.toNat_natCast])
    go_enter Try.func28, Try.ntmps28
    go_wp2
    go_ret
    rw [HE.out]
    refine ⟨rfl, ?_, keeps_set _ _ _ _⟩
    refine H.out.head (keeps_set _ _ _ _) ?_ rfl rfl rfl ?_
    · exact (heap_setCell_same _ _ _ _ _ _ H.out.1).trans (by simp)
    · obtain ⟨o1, o2, o3, o4, o5, o6, o7⟩ := H.out.okay
      exact ⟨o1, o2, o3, o4, o5, o6, by simp only; omega⟩

end Go.Proofs.Ytbagpckiegpalaa

namespace Go.Proofs.Ytbagpckiegpalaa
open Go.RowKit

theorem infoRW : (Try.prog.info? 103).map (fun i => (i.zero, i.size, i.bytes)) = some (some (.agg #[.int .i64 0, .slice none 0 0]), 2, 32) := by kernel_rfl

/-- What an append of such rows reads. -/
def SrcR (w : World) (u : Value) (ys : List (Nat × Value)) : Prop :=
  (u = .slice none 0 0 ∧ ys = []) ∨ ∃ a c, u = .slice (some a) ys.length c ∧ ∀ j y, (ys.flatMap rwcells)[j]? = some y → w.cell? (a.add j) = some y

theorem rw_length (ys : List (Nat × Value)) : (ys.flatMap rwcells).length = ys.length * 2 := by
  induction ys with
  | nil => rfl
  | cons x ys ih => rw [List.flatMap_cons, List.length_append, ih, List.length_cons]; simp [rwcells]; omega

theorem SrcR.of_own {w : World} {base : Nat} {v : Value} {xs : List (Nat × Value)} (h : w.ownsRow base 103 2 v xs.length (xs.flatMap rwcells)) : SrcR w v xs := by
  rcases h.2 with ⟨rfl, hn⟩ | ⟨g, cap, cur, rfl, hb, hg, _⟩
  · exact .inl ⟨rfl, List.eq_nil_of_length_eq_zero hn⟩
  · exact .inr ⟨⟨g, 0, none⟩, cap, rfl, World.ownsRow.cells h (g := g) rfl⟩

theorem run_appr (w : World) (ty : TypeId) (base : Nat) (v u : Value) (xs ys : List (Nat × Value)) (hown : w.ownsRow base 103 2 v xs.length (xs.flatMap rwcells)) (hsrc : SrcR w u ys) (hone : ∀ y ∈ ys, y.2.oneCell' = true)
    (hlen : xs.length + ys.length ≤ 4000000) (hbase : base ≤ w.heap.size) :
    ∃ v' w', (Builtin.append_ #[87, 87] ty #[v, u]).run Try.prog w = .ok v' w' ∧ w'.ownsRow base 103 2 v' (xs ++ ys).length ((xs ++ ys).flatMap rwcells) ∧ w.grownBy w' v.ownBlock := by
  obtain ⟨i, hi, hz0, hz1, hz2⟩ := info_parts infoRW
  rcases hsrc with ⟨rfl, rfl⟩ | ⟨a, c, rfl, hc⟩
  · have hr := run_append_owned_none (P := Try.prog) (w := w) base 87 ty 103 i 2 Try.underlying87 hi _ _ _ hown
    exact ⟨v, w, hr, by rw [List.append_nil]; exact hown, ⟨rfl, rfl, rfl, Nat.le_refl _, fun _ _ _ => rfl⟩⟩
  · obtain ⟨v', w', hr, r1, r2, _⟩ := run_append_own (P := Try.prog) w base 87 ty 103 i (.agg #[.int .i64 0, .slice none 0 0]) 2 32 Try.underlying87 hi hz0 hz1 hz2 rfl (by decide) v xs.length _ hown a ys.length c (ys.flatMap rwcells) (rw_length ys) hc (fun y hy => by
      rw [List.mem_flatMap] at hy
      obtain ⟨z, hz, hy⟩ := hy
      simp only [rwcells, List.mem_cons, List.not_mem_nil, or_false] at hy
      rcases hy with rfl | rfl
      · rfl
      · exact hone z hz) (by unfold maxLen; omega) (by omega) hbase
    refine ⟨v', w', hr, ?_, r2⟩
    rw [List.length_append, List.flatMap_append]
    exact r1

theorem appr {w : World} {ops : Array Oper} {rest : List Oper} {o : Oper} {a : Act} {Q : Exit → Act → World → Prop} (hw : Region.wanted o (yielded ops a.tmps) = true) (s x : Operand)
    (ho : o.op = .call { callee := .builtin .append, args := #[s, x], argTypes := #[87, 87] })
    (base : Nat) (v u : Value) (xs ys : List (Nat × Value)) (hs : a.eval s = v) (hx : a.eval x = u) (hown : w.ownsRow base 103 2 v xs.length (xs.flatMap rwcells)) (hsrc : SrcR w u ys) (hone : ∀ y ∈ ys, y.2.oneCell' = true)
    (hlen : xs.length + ys.length ≤ 4000000) (hbase : base ≤ w.heap.size)
    (h : ∀ v' w', w'.ownsRow base 103 2 v' (xs ++ ys).length ((xs ++ ys).flatMap rwcells) → w.grownBy w' v.ownBlock → wpList Try.prog ops Q rest (a.put o.dst v') w') : wpList Try.prog ops Q (o :: rest) a w :=
  BigFrame.wpList_want hw fun _ hK => by
    obtain ⟨v', w', hrun, h1, h2⟩ := run_appr w o.type base v u xs ys hown hsrc hone hlen hbase
    unfold Oper.wp
    simp [execOp, ho, resolve, invoke, builtin, hs, hx, hrun, Result.andThen]
    exact hK _ _ (h v' w' h1 h2)

theorem RefAt.like {w : World} {base : Bs} {rb gd cd : Nat} {wv : Value} {s s' : Sl} (h : RefAt w base rb gd cd wv s) (e0 : s'.n = s.n) (e1 : s'.done = s.done) (e2 : s'.way = s.way) (e3 : s'.off = s.off) (e4 : s'.armed = s.armed) (e5 : s'.steps = s.steps) (hok : s'.ok) : RefAt w base rb gd cd wv s' := by
  obtain ⟨a, hd, hp, hb, _⟩ := h
  refine ⟨?_, ?_, ?_, hb, hok⟩
  · rw [e0, e3, e4, e5]; exact a
  · rw [e0, e1]; exact hd
  · rw [e2]; exact hp

/-- The way is another row. -/
theorem RefAt.setway {w : World} {base : Bs} {rb gd cd : Nat} {wv : Value} {s : Sl} (h : RefAt w base rb gd cd wv s) (s' : Sl) (v' : Value) (ws : List (Nat × List UInt8)) (PW : List (Nat × Value)) (hp : WayAt w base v' ws PW) (e0 : s'.n = s.n) (e1 : s'.done = s.done) (e2 : s'.way = ws) (e3 : s'.off = s.off) (e4 : s'.armed = s.armed) (e5 : s'.steps = s.steps) (hok : s'.ok) :
    RefAt (w.setCell ⟨rb, 1, none⟩ v') base rb gd cd v' s' := by
  obtain ⟨p1, p2, p3, p4, p5, p6⟩ := h.apart
  obtain ⟨a, ⟨DV, hd⟩, _, hb, _⟩ := h
  have hk := keeps_set w rb 1 v'
  refine ⟨?_, ⟨DV, ?_⟩, ⟨PW, ?_⟩, hb, hok⟩
  · rw [heap_setCell_same _ _ _ _ _ _ a, e0, e3, e4, e5]
    simp
  · rw [e0, e1]; exact hd.keeps hk (fun e => p1 e.symm) (fun g cs _ hg => (p3 g cs hg).1)
  · rw [e2]; exact hp.keeps hk (fun k hk' e => by
      obtain ⟨cur, hc⟩ := owns_type hp.1 k hk'
      subst e
      rw [a] at hc; simp only [Option.some.injEq, Obj.cells.injEq] at hc; exact absurd hc.2.1 (by decide)) (fun g cs _ hg => (p3 g cs hg).1)

theorem RowB.one {w : World} {base : Bs} {v : Value} {l : List UInt8} (h : RowB w base v l) : v.oneCell' = true := by
  obtain ⟨_, g, c, cs, rfl, _⟩ := h
  rfl

theorem WayAt.one {w : World} {base : Bs} {wv : Value} {ws : List (Nat × List UInt8)} {PW : List (Nat × Value)} (h : WayAt w base wv ws PW) : ∀ y ∈ PW, y.2.oneCell' = true := by
  intro y hy
  obtain ⟨k, hk, rfl⟩ := List.getElem_of_mem hy
  have := (h.2.2 k (by rw [← h.2.1]; exact hk)).2.one
  rw [List.getD_eq_getElem?_getD, List.getElem?_eq_getElem hk] at this
  exact this

theorem getD_left {α : Type} (l m : List α) (j : Nat) (z : α) (h : j < l.length) : (l ++ m).getD j z = l.getD j z := by
  simp only [List.getD_eq_getElem?_getD]
  rw [List.getElem?_append_left h]
theorem getD_last {α : Type} (l : List α) (x z : α) : (l ++ [x]).getD l.length z = x := by
  simp [List.getD_eq_getElem?_getD]

theorem owns_base5 {w : World} {b b' : Nat} {e : TypeId} {size : Nat} {v : Value} {n : Nat} {xs : List Value} (h : w.ownsRow b e size v n xs) (hb : ∀ k, v.ownBlock = some k → b' ≤ k) : w.ownsRow b' e size v n xs := by
  refine ⟨h.1, ?_⟩
  rcases h.2 with hn | ⟨g, cap, cur, rfl, _, hgg, rest⟩
  · exact .inl hn
  · exact .inr ⟨g, cap, cur, rfl, hb g rfl, hgg, rest⟩

theorem owns_slice5 {w : World} {base : Nat} {e : TypeId} {size : Nat} {v : Value} {n : Nat} {xs : List Value} (h : w.ownsRow base e size v n xs) : ∃ a m c, v = .slice a m c := by
  rcases h.2 with ⟨rfl, _⟩ | ⟨g, cap, cur, rfl, _⟩
  · exact ⟨_, _, _, rfl⟩
  · exact ⟨_, _, _, rfl⟩

theorem refput_nil (i : Int) (p : Value) (w : World) (hp : ∃ a n c, p = .slice a n c) :
    Calls Try.prog 24 #[.pointer none, .int .i64 i, p] w fun e w' => e = .returned (.int .i64 6) ∧ w = w' := by
  obtain ⟨a, n, c, rfl⟩ := hp
  go_enter Try.func24, Try.ntmps24
  go_wp2
  go_ret
  exact ⟨rfl, rfl⟩

set_option maxRecDepth 100000 in
set_option maxHeartbeats 4000000 in
theorem refput_any (base : Bs) (rb gd cd : Nat) (wv : Value) (s : Sl) (i : Nat) (pa : Option Addr) (pl pc : Nat) (p : List UInt8) (w : World) (h : RefAt w base rb gd cd wv s) (hi : i < s.n) (hst : s.steps ≤ 1000000) (hwy : s.way.length < 1000000) (ho : s.off = false) (hp : Rd w (.slice pa pl pc) p) (hpl : p.length = pl) (hp2 : pl ≤ 128) (hpb : p ≠ [] → ∀ k, (Value.slice pa pl pc).ownBlock = some k → k ≠ rb) (hP : ∀ g, w.heap.size ≤ g → base.P g) :
    Calls Try.prog 24 #[.pointer (some ⟨rb, 0, none⟩), .int .i64 (i : Int), .slice pa pl pc] w fun e w' => ∃ v', e = .returned (.int .i64 s.stepE) ∧ RefAt w' base rb gd cd v' (s.put i (pad p)).step ∧ Keeps (fun k => k = rb) w w' := by
  have H := hid h
  obtain ⟨c0, c1, c2, c3, c4, hf⟩ := h.cells
  rw [ho] at c2
  have hok := h.okay
  have HOK := hid hok
  have HP := hid hp
  have HPL := hid hpl
  have HS := hid (refstep_any base rb gd cd wv s w h hst)
  have hb1 : (0 : Int) ≤ (i : Int) := by omega
  have hb2 : (i : Int) < (s.n : Int) := by omega
  have hge : ((s.n : Int) ≤ (i : Int)) = False := eq_false (by omega)
  have hpl2 : (pl : Int) ≤ 128 := by omega
  have hz : (128 : Int) - (pl : Int) = ((128 - pl : Nat) : Int) := by omega
  have HPB := hid hpb
  have HO := hid ho
  clear h hf hok hp hpl hpb ho c1 c3 c4
  go_enter Try.func24, Try.ntmps24
  go_wp2_with fail
  refine HS.out.mono ?_
  rintro e w1 ⟨rfl, h1, hk1⟩
  have H1 := hid h1
  have HK1 := hid hk1
  obtain ⟨d0, d1, d2, d3, d4, hf1⟩ := h1.cells
  have f1 := hf1 1
  obtain ⟨PW, HPW⟩ : ∃ PW, WayAt w1 base wv s.way PW := h1.2.2.1
  have HPW1 := hid HPW
  obtain ⟨p1, p2, p3, p4, p5, p6⟩ := h1.apart
  have hbase : base.n ≤ w1.heap.size := by omega
  have HPP := hid hP
  have hs1w := hk1.size
  clear hP
  have HR1 := hid (rd_keepsE HP.out hk1 (fun hne k hk => HPB.out hne k hk))
  have HE0 := hid (World.ownsRow_lit w1 (e := 103) (base := w1.heap.size) (size := 2) #[] 0 (Nat.le_refl _) (Nat.zero_le _) rfl)
  have HSR := hid (show SrcR (w1.alloc (.cells #[] 103)) wv PW from by
    have h2 := HPW.1
    rw [← HPW.2.1] at h2
    exact SrcR.of_own (World.ownsRow.alloc h2 _))
  have HON := hid HPW.one
  have hpn : PW.length < 1000000 := by rw [HPW.2.1]; exact hwy
  have hb0 : Below w1.heap.size w1 (w1.alloc (.cells #[] 103)) := (Below.refl _ _).alloc (Nat.le_refl _) _
  have HB0 := hid hb0
  obtain ⟨of, hof⟩ : ∃ of, of = s.step.off := ⟨_, rfl⟩
  rw [← hof]
  have HOF := hid hof
  clear h1 hk1 hf1 HPW p1 p2 p3 hb0 hof d0 d2 d3 d4 c0 c2
  have hc : (of = true ∧ s.stepE = 13) ∨ (of = false ∧ s.stepE = 0) := by
    by_cases ha : s.armed = 1
    · exact .inl ⟨by rw [HOF.out]; simp [Sl.step, ha], by simp [Sl.stepE, ha]⟩
    · exact .inr ⟨by rw [HOF.out]; simp [Sl.step, ha, HO.out], by simp [Sl.stepE, ha]⟩
  clear HOF
  rcases hc with ⟨hc, hE⟩ | ⟨hc, hE⟩
  · have HE := hid hE
    subst hc
    clear hE
    go_wp2_with (first
      | (at_builtin; (refine appr (by rfl) (.tmp 31) (.tmp 35) rfl w1.heap.size (.slice (some ⟨w1.heap.size, 0, none⟩) 0 0) wv [] PW rfl rfl HE0.out HSR.out HON.out (by simp; omega) (by simp) ?_); intro v2 w2 ho2 hg2; rw [List.nil_append] at ho2; have HO2 := hid ho2; have HB2 := hid (HB0.out.grown hg2 (by simp) (fun k hk => by have : w1.heap.size = k := Option.some.inj hk; omega)); have hs2 := HB2.out.size; have HR2 := hid ((HR1.out.below HB2.out).alloc (.cells #[] 5)); have HE2 := hid (Own.empty w2 w2.heap.size (Nat.le_refl _)); clear ho2 hg2)
      | (at_builtin; (refine appw (by rfl) (.tmp 38) (.tmp 39) rfl w2.heap.size (.slice (some ⟨w2.heap.size, 0, none⟩) 0 0) _ [] p p pl rfl rfl HE2.out HR2.out (by have := HPL.out; simp; omega) rfl (by have := HPL.out; simp; omega) (by simp) ?_); intro ad3 cp3 w3 ho3 hg3; have HO3 := hid ho3; have HB3 := hid (((Below.refl w2.heap.size w2).alloc (Nat.le_refl _) (.cells #[] 5)).grown hg3 (by simp) (fun k hk => by have : w2.heap.size = k := Option.some.inj hk; omega)); have hs3 := HB3.out.size; clear ho3 hg3)
      | (at_builtin; (refine appzw (by rfl) (.tmp 40) (.tmp 43) rfl w2.heap.size (.slice ad3 pl cp3) _ p (pad p) (128 - pl) 128 rfl rfl rfl HO3.out (by have := HPL.out; omega) (by have := HPL.out; subst this; rfl) (by have := HPL.out; omega) (by omega) ?_); intro ad4 cp4 w4 ho4 hg4; have HO4 := hid ho4; have HB4 := hid (HB3.out.grown hg4 hs3 (fun k hk => (HO3.out.lt k hk).1)); have hs4 := HB4.out.size; have HRW := hid (show SrcR (w4.alloc (.cells #[.int .i64 (i : Int), .slice ad4 128 cp4] 103)) (.slice (some ⟨w4.heap.size, 0, none⟩) 1 1) [(i, .slice ad4 128 cp4)] from .inr ⟨⟨w4.heap.size, 0, none⟩, 1, rfl, fun j y hj => by
          rw [Addr.add_lit, cell_of_row _ _ _ _ _ _ (heap_alloc_new w4 _), Nat.zero_add]
          simpa [rwcells] using hj⟩); have HV2 := hid (World.ownsRow.alloc (owns_to HO2.out (fun k hk => HB4.out.block k (World.ownsRow.lt HO2.out k hk).2)) (.cells #[.int .i64 (i : Int), .slice ad4 128 cp4] 103)); clear ho4 hg4)
      | (at_builtin; (refine appr (by rfl) (.tmp 36) (.tmp 46) rfl w1.heap.size v2 (.slice (some ⟨w4.heap.size, 0, none⟩) 1 1) PW [(i, .slice ad4 128 cp4)] rfl rfl HV2.out HRW.out (by simp [Value.oneCell']) (by simp; omega) (by simp; omega) ?_); intro v5 w5 ho5 hg5; obtain ⟨va, vn, vc, ev⟩ := owns_slice5 ho5; subst ev; have HO5 := hid ho5; have HB5 := hid (((HB2.out.trans (HB4.out.mono hs2)).alloc (by omega) (.cells #[.int .i64 (i : Int), .slice ad4 128 cp4] 103)).grown hg5 (by simp; omega) (fun k hk => (World.ownsRow.lt HO2.out k hk).1)); have hb5 := HB5.out; have h5 := H1.out.below hb5; have e5 := h5.cells.2.1; have f5 := h5.cells.2.2.2.2.2 1; have H5 := hid h5; have HG5 := hid hg5; clear ho5 hg5 hb5 h5)
      | fail)
    have HPV := hid (RowB.of_own (base := base) HO4.out (by rw [pad_length p (by have := HPL.out; omega)]; omega) (fun g hg => HPP.out g (by omega)))
    have HPV5 := hid ((HPV.out.below ((Below.refl _ w4).alloc (Nat.le_refl _) (.cells #[.int .i64 (i : Int), .slice ad4 128 cp4] 103))).keeps (Keeps.of_grown HG5.out) (fun g cs _ hg e => by
      obtain ⟨cur, hc⟩ := owns_type HV2.out g e
      rw [hg] at hc; simp only [Option.some.injEq, Obj.cells.injEq] at hc; exact absurd hc.2.1 (by decide)))
    have HPW5 := hid (show WayAt w5 base (.slice va vn vc) (s.way ++ [(i, pad p)]) (PW ++ [(i, .slice ad4 128 cp4)]) from by
      have hl := HPW1.out.2.1
      refine ⟨?_, by simp [hl], fun j hj => ?_⟩
      · have := owns_base5 HO5.out (b' := base.n) (fun k hk => by have := (World.ownsRow.lt HO5.out k hk).1; omega)
        rw [List.length_append, hl] at this
        rw [List.length_append]
        exact this
      · rw [List.length_append, List.length_singleton] at hj
        by_cases h2 : j < s.way.length
        · rw [getD_left _ _ _ _ (by omega), getD_left _ _ _ _ h2]
          exact ⟨(HPW1.out.2.2 j h2).1, (HPW1.out.2.2 j h2).2.below HB5.out⟩
        · obtain rfl : j = s.way.length := by omega
          rw [show s.way.length = PW.length from hl.symm, getD_last, hl, getD_last]
          exact ⟨rfl, HPV5.out⟩)
    go_ret
    rw [HE.out]
    refine ⟨_, rfl, H5.out.setway _ _ _ _ HPW5.out rfl rfl rfl rfl rfl rfl ?_, ?_⟩
    · obtain ⟨o1, o2, o3, o4, o5, o6, o7⟩ := Sl.put_ok s i (pad p) HOK.out hi (pad_length p (by have := HPL.out; omega)) hwy
      exact ⟨o1, o2, o3, o4, o5, o6, by have h7 : s.armed ≤ 9223372036854775807 := o7; show s.armed - 1 ≤ _; omega⟩
    · exact (HK1.out.trans' (Keeps.of_below HB5.out (fun k h1 h2 => by omega) : Keeps (fun k => k = rb) w1 w5) (fun k _ e => e)).trans' (keeps_set w5 rb 1 _) (fun k _ e => e)
  · have HE := hid hE
    subst hc
    clear hE
    go_wp2_with (first
      | (at_builtin; (refine appr (by rfl) (.tmp 31) (.tmp 35) rfl w1.heap.size (.slice (some ⟨w1.heap.size, 0, none⟩) 0 0) wv [] PW rfl rfl HE0.out HSR.out HON.out (by simp; omega) (by simp) ?_); intro v2 w2 ho2 hg2; rw [List.nil_append] at ho2; have HO2 := hid ho2; have HB2 := hid (HB0.out.grown hg2 (by simp) (fun k hk => by have : w1.heap.size = k := Option.some.inj hk; omega)); have hs2 := HB2.out.size; have HR2 := hid ((HR1.out.below HB2.out).alloc (.cells #[] 5)); have HE2 := hid (Own.empty w2 w2.heap.size (Nat.le_refl _)); clear ho2 hg2)
      | (at_builtin; (refine appw (by rfl) (.tmp 38) (.tmp 39) rfl w2.heap.size (.slice (some ⟨w2.heap.size, 0, none⟩) 0 0) _ [] p p pl rfl rfl HE2.out HR2.out (by have := HPL.out; simp; omega) rfl (by have := HPL.out; simp; omega) (by simp) ?_); intro ad3 cp3 w3 ho3 hg3; have HO3 := hid ho3; have HB3 := hid (((Below.refl w2.heap.size w2).alloc (Nat.le_refl _) (.cells #[] 5)).grown hg3 (by simp) (fun k hk => by have : w2.heap.size = k := Option.some.inj hk; omega)); have hs3 := HB3.out.size; clear ho3 hg3)
      | (at_builtin; (refine appzw (by rfl) (.tmp 40) (.tmp 43) rfl w2.heap.size (.slice ad3 pl cp3) _ p (pad p) (128 - pl) 128 rfl rfl rfl HO3.out (by have := HPL.out; omega) (by have := HPL.out; subst this; rfl) (by have := HPL.out; omega) (by omega) ?_); intro ad4 cp4 w4 ho4 hg4; have HO4 := hid ho4; have HB4 := hid (HB3.out.grown hg4 hs3 (fun k hk => (HO3.out.lt k hk).1)); have hs4 := HB4.out.size; have HRW := hid (show SrcR (w4.alloc (.cells #[.int .i64 (i : Int), .slice ad4 128 cp4] 103)) (.slice (some ⟨w4.heap.size, 0, none⟩) 1 1) [(i, .slice ad4 128 cp4)] from .inr ⟨⟨w4.heap.size, 0, none⟩, 1, rfl, fun j y hj => by
          rw [Addr.add_lit, cell_of_row _ _ _ _ _ _ (heap_alloc_new w4 _), Nat.zero_add]
          simpa [rwcells] using hj⟩); have HV2 := hid (World.ownsRow.alloc (owns_to HO2.out (fun k hk => HB4.out.block k (World.ownsRow.lt HO2.out k hk).2)) (.cells #[.int .i64 (i : Int), .slice ad4 128 cp4] 103)); clear ho4 hg4)
      | (at_builtin; (refine appr (by rfl) (.tmp 36) (.tmp 46) rfl w1.heap.size v2 (.slice (some ⟨w4.heap.size, 0, none⟩) 1 1) PW [(i, .slice ad4 128 cp4)] rfl rfl HV2.out HRW.out (by simp [Value.oneCell']) (by simp; omega) (by simp; omega) ?_); intro v5 w5 ho5 hg5; obtain ⟨va, vn, vc, ev⟩ := owns_slice5 ho5; subst ev; have HO5 := hid ho5; have HB5 := hid (((HB2.out.trans (HB4.out.mono hs2)).alloc (by omega) (.cells #[.int .i64 (i : Int), .slice ad4 128 cp4] 103)).grown hg5 (by simp; omega) (fun k hk => (World.ownsRow.lt HO2.out k hk).1)); have hb5 := HB5.out; have h5 := H1.out.below hb5; have e5 := h5.cells.2.1; have f5 := h5.cells.2.2.2.2.2 1; have H5 := hid h5; have HG5 := hid hg5; clear ho5 hg5 hb5 h5)
      | fail)
    have HPV := hid (RowB.of_own (base := base) HO4.out (by rw [pad_length p (by have := HPL.out; omega)]; omega) (fun g hg => HPP.out g (by omega)))
    have HPV5 := hid ((HPV.out.below ((Below.refl _ w4).alloc (Nat.le_refl _) (.cells #[.int .i64 (i : Int), .slice ad4 128 cp4] 103))).keeps (Keeps.of_grown HG5.out) (fun g cs _ hg e => by
      obtain ⟨cur, hc⟩ := owns_type HV2.out g e
      rw [hg] at hc; simp only [Option.some.injEq, Obj.cells.injEq] at hc; exact absurd hc.2.1 (by decide)))
    have HPW5 := hid (show WayAt w5 base (.slice va vn vc) (s.way ++ [(i, pad p)]) (PW ++ [(i, .slice ad4 128 cp4)]) from by
      have hl := HPW1.out.2.1
      refine ⟨?_, by simp [hl], fun j hj => ?_⟩
      · have := owns_base5 HO5.out (b' := base.n) (fun k hk => by have := (World.ownsRow.lt HO5.out k hk).1; omega)
        rw [List.length_append, hl] at this
        rw [List.length_append]
        exact this
      · rw [List.length_append, List.length_singleton] at hj
        by_cases h2 : j < s.way.length
        · rw [getD_left _ _ _ _ (by omega), getD_left _ _ _ _ h2]
          exact ⟨(HPW1.out.2.2 j h2).1, (HPW1.out.2.2 j h2).2.below HB5.out⟩
        · obtain rfl : j = s.way.length := by omega
          rw [show s.way.length = PW.length from hl.symm, getD_last, hl, getD_last]
          exact ⟨rfl, HPV5.out⟩)
    go_ret
    rw [HE.out]
    refine ⟨_, rfl, H5.out.setway _ _ _ _ HPW5.out rfl rfl rfl rfl rfl rfl ?_, ?_⟩
    · obtain ⟨o1, o2, o3, o4, o5, o6, o7⟩ := Sl.put_ok s i (pad p) HOK.out hi (pad_length p (by have := HPL.out; omega)) hwy
      exact ⟨o1, o2, o3, o4, o5, o6, by have h7 : s.armed ≤ 9223372036854775807 := o7; show s.armed - 1 ≤ _; omega⟩
    · exact (HK1.out.trans' (Keeps.of_below HB5.out (fun k h1 h2 => by omega) : Keeps (fun k => k = rb) w1 w5) (fun k _ e => e)).trans' (keeps_set w5 rb 1 _) (fun k _ e => e)

end Go.Proofs.Ytbagpckiegpalaa

namespace Go.Proofs.Ytbagpckiegpalaa
open Go.RowKit

theorem refput_all (base : Bs) (rb gd cd : Nat) (wv : Value) (s : Sl) (i : Int) (pv : Value) (p : List UInt8) (w : World) (h : RefAt w base rb gd cd wv s) (hst : s.steps ≤ 1000000) (hwy : s.way.length < 1000000) (hp : Rd w pv p) (hpb : p ≠ [] → ∀ k, pv.ownBlock = some k → k ≠ rb) (hP : ∀ g, w.heap.size ≤ g → base.P g) :
    Calls Try.prog 24 #[.pointer (some ⟨rb, 0, none⟩), .int .i64 i, pv] w fun e w' => ∃ v', e = .returned (.int .i64 (s.write i p).2) ∧ RefAt w' base rb gd cd v' (s.write i p).1 ∧ Keeps (fun k => k = rb) w w' := by
  obtain ⟨pa, pc, rfl⟩ := rd_slice hp
  by_cases h1 : s.has i = false
  · have HE := hid (show s.write i p = (s, 1) by unfold Sl.write; rw [if_pos h1])
    obtain ⟨c0, c1, c2, c3, c4, hf⟩ := h.cells
    have H := hid h
    clear c1 c2 c3 c4 hf h
    by_cases h2 : i < 0
    · go_enter Try.func24, Try.ntmps24
      go_wp2
      go_ret
      rw [HE.out]
      first | exact ⟨wv, rfl, H.out, Keeps.refl _ _⟩ | exact ⟨rfl, ⟨wv, H.out⟩, Keeps.refl _ _⟩
    · have h3 : (s.n : Int) ≤ i := by simp [Sl.has] at h1; omega
      have h2' : 0 ≤ i := by omega
      go_enter Try.func24, Try.ntmps24
      go_wp2
      go_ret
      rw [HE.out]
      first | exact ⟨wv, rfl, H.out, Keeps.refl _ _⟩ | exact ⟨rfl, ⟨wv, H.out⟩, Keeps.refl _ _⟩
  · have h1' : s.has i = true := by simpa using h1
    have hb : 0 ≤ i ∧ i < (s.n : Int) := by simpa [Sl.has] using h1'
    obtain ⟨j, rfl⟩ := Int.eq_ofNat_of_zero_le hb.1
    have hge : ((s.n : Int) ≤ (j : Int)) = False := eq_false (by omega)
    have hb1 : (0 : Int) ≤ (j : Int) := by omega
    by_cases h2 : 128 < p.length
    · have HE := hid (show s.write (j : Int) p = (s, 3) by unfold Sl.write; rw [if_neg h1, if_pos h2])
      obtain ⟨c0, c1, c2, c3, c4, hf⟩ := h.cells
      have H := hid h
      have h2i : (128 : Int) < (p.length : Int) := by omega
      clear c1 c2 c3 c4 hf h h1 h1' hb
      go_enter Try.func24, Try.ntmps24
      go_wp2
      go_ret
      rw [HE.out]
      first | exact ⟨wv, rfl, H.out, Keeps.refl _ _⟩ | exact ⟨rfl, ⟨wv, H.out⟩, Keeps.refl _ _⟩
    · by_cases h3 : s.off = true
      · have HE := hid (show s.write (j : Int) p = (s, 13) by unfold Sl.write; rw [if_neg h1, if_neg h2, if_pos h3])
        obtain ⟨c0, c1, c2, c3, c4, hf⟩ := h.cells
        rw [h3] at c2
        have H := hid h
        have h2i : (p.length : Int) ≤ 128 := by omega
        clear c1 c3 c4 hf h h1 h1' hb h3
        go_enter Try.func24, Try.ntmps24
        go_wp2
        go_ret
        rw [HE.out]
        first | exact ⟨wv, rfl, H.out, Keeps.refl _ _⟩ | exact ⟨rfl, ⟨wv, H.out⟩, Keeps.refl _ _⟩
      · have HE := hid (show s.write (j : Int) p = ((s.put j (pad p)).step, s.stepE) by unfold Sl.write; rw [if_neg h1, if_neg h2, if_neg h3, Int.toNat_natCast])
        refine (refput_any base rb gd cd wv s j pa p.length pc p w h (by omega) hst hwy (by simpa using h3) hp rfl (by omega) hpb hP).mono ?_
        rintro e w' ⟨v', rfl, h4, h5⟩
        rw [HE.out]
        exact ⟨v', rfl, h4, h5⟩

theorem rflat_get (l : List (Nat × Value)) : ∀ k j, k < l.length → j < 2 → (l.flatMap rwcells)[k * 2 + j]? = (rwcells (l.getD k (0, zv)))[j]? := by
  induction l with
  | nil => intro k j hk; cases hk
  | cons x l ih =>
    intro k j hk hj
    rw [List.flatMap_cons]
    cases k with
    | zero =>
      rw [Nat.zero_mul, Nat.zero_add, List.getElem?_append_left (by simpa [rwcells] using hj)]
      rfl
    | succ k =>
      rw [List.getElem?_append_right (by simp [rwcells]; omega), show (rwcells x).length = 2 from rfl, show (k + 1) * 2 + j - 2 = k * 2 + j by omega]
      exact ih k j (by simpa using hk) hj

/-- One that is under way, read. -/
theorem WayAt.at {w : World} {base : Bs} {wv : Value} {ws : List (Nat × List UInt8)} {PW : List (Nat × Value)} (h : WayAt w base wv ws PW) (h0 : 0 < ws.length) :
    ∃ g c, wv = .slice (some ⟨g, 0, none⟩) ws.length c ∧ g < w.heap.size ∧ ws.length ≤ c ∧ c ≤ 9223372036854775807 ∧ ∀ k, k < ws.length → w.cell? ⟨g, k * 2, none⟩ = some (.int .i64 ((ws.getD k (0, [])).1 : Int)) ∧ w.cell? ⟨g, k * 2 + 1, none⟩ = some (PW.getD k (0, zv)).2 := by
  rcases h.1.2 with ⟨rfl, hn⟩ | ⟨g, cap, cur, rfl, hb, hg, h1, h2, h3, h4⟩
  · omega
  · refine ⟨g, cap, rfl, (Array.getElem?_eq_some_iff.1 hg).1, h1, by unfold maxLen at h2; omega, fun k hk => ?_⟩
    have hl := h.2.1
    have hlen := rw_length PW
    have a0 := World.ownsRow.cellAt (w := w) (g := g) (cap := cap) (n := ws.length) (xs := PW.flatMap rwcells) ⟨h.1.1, h.1.2⟩ (k * 2) (by omega)
    have a1 := World.ownsRow.cellAt (w := w) (g := g) (cap := cap) (n := ws.length) (xs := PW.flatMap rwcells) ⟨h.1.1, h.1.2⟩ (k * 2 + 1) (by omega)
    have e0 := rflat_get PW k 0 (by omega) (by omega)
    rw [Nat.add_zero] at e0
    rw [e0] at a0
    rw [rflat_get PW k 1 (by omega) (by omega)] at a1
    refine ⟨?_, ?_⟩
    · rw [a0, ← (h.2.2 k hk).1]; rfl
    · rw [a1]; rfl

theorem refget_nil (i : Int) (w : World) :
    Calls Try.prog 41 #[.pointer none, .int .i64 i] w fun e w' => e = .returned (.tuple #[.slice none 0 0, .int .i64 6]) ∧ w = w' := by
  go_enter Try.func41, Try.ntmps41
  go_wp2
  go_ret2
  exact ⟨rfl, rfl⟩

/-- The document's answer to Read. -/
def Sl.got (s : Sl) (i : Int) : List UInt8 × Int := if s.has i = false then ([], 1) else if s.off = true then ([], 13) else (lastAt s.way i.toNat (sect s.done i.toNat), 0)

theorem lastAt_length (ws : List (Nat × List UInt8)) (j : Nat) : ∀ d, d.length = 128 → (∀ x ∈ ws, x.2.length = 128) → (lastAt ws j d).length = 128 := by
  induction ws with
  | nil => intro d hd _; exact hd
  | cons x ws ih =>
    intro d hd h
    show (lastAt ws j (if x.1 = j then x.2 else d)).length = 128
    refine ih _ ?_ (fun y hy => h y (by simp [hy]))
    split
    · exact h x (by simp)
    · exact hd

set_option maxRecDepth 100000 in
set_option maxHeartbeats 4000000 in
theorem refget_any (base : Bs) (rb gd cd : Nat) (wv : Value) (s : Sl) (i : Nat) (w : World) (h : RefAt w base rb gd cd wv s) (hi : i < s.n) (ho : s.off = false) :
    Calls Try.prog 41 #[.pointer (some ⟨rb, 0, none⟩), .int .i64 (i : Int)] w fun e w' => ∃ v, e = .returned (.tuple #[v, .int .i64 0]) ∧ Own w' w.heap.size v (lastAt s.way i (sect s.done i)) ∧ Below w.heap.size w w' := by
  obtain ⟨c0, c1, c2, c3, c4, hf⟩ := h.cells
  rw [ho] at c2
  have hok := h.okay
  have HOK := hid hok
  have hbase : base.n ≤ w.heap.size := by have := h.apart; omega
  have hge : ((s.n : Int) ≤ (i : Int)) = False := eq_false (by omega)
  have hb1 : (0 : Int) ≤ (i : Int) := by omega
  have hb2 : (i : Int) < (s.n : Int) := by omega
  have hb3 : s.n ≤ 4096 := hok.2.1
  obtain ⟨DV, hd⟩ := h.2.1
  obtain ⟨PW, hp⟩ := h.2.2.1
  have hdl := hd.1.1
  have hcell := World.ownsRow.cellAt (w := w) (g := gd) (cap := cd) (n := s.n) (xs := DV) ⟨hd.1.1, hd.1.2⟩ i (by omega)
  have HRW := hid (hd.2 i hi)
  obtain ⟨dv, hdv⟩ : ∃ dv, dv = DV.getD i zv := ⟨_, rfl⟩
  have hcell2 : w.cell? ⟨gd, i, none⟩ = some dv := by
    rw [hcell, hdv, List.getD_eq_getElem?_getD, List.getElem?_eq_getElem (by omega)]
    rfl
  rw [← hdv] at HRW
  have HWP := hid hp
  have hsl := sect_length s.done i s.n hok.2.2.2.1 hi
  have HSL := hid hsl
  obtain ⟨wl, hwl⟩ : ∃ wl, wl = s.way.length := ⟨_, rfl⟩
  have HWL := hid hwl
  obtain ⟨wa, wn, wc, ewv⟩ := owns_slice5 hp.1
  have hwn : wn = wl := by
    rw [hwl]
    rcases hp.1.2 with ⟨e, hn⟩ | ⟨g, cap, cur, e, _⟩
    · rw [ewv] at e; simp only [Value.slice.injEq] at e; omega
    · rw [ewv] at e; simp only [Value.slice.injEq] at e; omega
  subst hwn
  subst ewv
  have hwm : wn ≤ 1000000 := by rw [hwl]; exact hok.2.2.2.2.2.1
  clear h hf hok hd hp hcell hdv hsl hwl c3 c4
  go_enter Try.func41, Try.ntmps41
  go_wp2_with fail
  go_loopw [6, 38] (fun pv i' wr => ∃ k : Nat, k ≤ wn ∧ i' = .int .i64 k ∧ RowB wr base pv (lastAt (s.way.take k) i (sect s.done i)) ∧ Below w.heap.size w wr) (fun _ i' _ => wn - (intOf i').toNat)
  case atStart => exact ⟨0, Nat.zero_le _, rfl, HRW.out, Below.refl _ _⟩
  case round =>
    obtain ⟨k, hk, rfl, hr, hB⟩ := hrel
    have HR := hid hr
    have HB := hid hB
    have hsr := hB.size
    clear hr hB
    by_cases hlt : k < wn
    · obtain ⟨g, c, ev, hg, hc1, hc2, hat⟩ := HWP.out.at (by have := HWL.out; omega)
      simp only [Value.slice.injEq] at ev
      obtain ⟨e1, _, e3⟩ := ev
      subst e1 e3
      obtain ⟨a0, a1⟩ := hat k (by have := HWL.out; omega)
      have g0 := (HB.out.cell (p := ⟨g, k * 2, none⟩) hg).trans a0
      have g1 := (HB.out.cell (p := ⟨g, k * 2 + 1, none⟩) hg).trans a1
      have HRK := hid ((HWP.out.2.2 k (by have := HWL.out; omega)).2.below HB.out)
      obtain ⟨x, hx⟩ : ∃ x, x = s.way.getD k (0, []) := ⟨_, rfl⟩
      obtain ⟨pk, hpk⟩ : ∃ pk, pk = (PW.getD k (0, zv)).2 := ⟨_, rfl⟩
      rw [← hx] at g0
      rw [← hpk] at g1 HRK
      rw [← hx] at HRK
      have HTK := hid (show lastAt (s.way.take (k + 1)) i (sect s.done i) = if x.1 = i then x.2 else lastAt (s.way.take k) i (sect s.done i) by
        rw [List.take_succ_eq_append_getElem (by have := HWL.out; omega), lastAt_snoc, hx, List.getD_eq_getElem?_getD, List.getElem?_eq_getElem (by have := HWL.out; omega)]
        rfl)
      have hcm : wn ≤ wc := by have := HWL.out; omega
      have hcm2 : wc ≤ 9223372036854775807 := hc2
      obtain ⟨qa, qn, qc, eq⟩ : ∃ a n c, pk = .slice a n c := by
        obtain ⟨_, g, c, cs, e, _⟩ := HRK.out
        exact ⟨_, _, _, e⟩
      subst eq
      obtain ⟨xi, hxi⟩ : ∃ xi, xi = x.1 := ⟨_, rfl⟩
      rw [← hxi] at g0 HTK
      clear a0 a1 hat hx hpk hxi
      have hA0 : (wr.alloc (.cells #[.int .i64 (xi : Int), .slice qa qn qc] 103)).cell? ⟨wr.heap.size, 0, none⟩ = some (.int .i64 (xi : Int)) := by rw [cell_of_row _ _ _ _ _ _ (heap_alloc_new wr _)]; rfl
      have hA1 : (wr.alloc (.cells #[.int .i64 (xi : Int), .slice qa qn qc] 103)).cell? ⟨wr.heap.size, 1, none⟩ = some (.slice qa qn qc) := by rw [cell_of_row _ _ _ _ _ _ (heap_alloc_new wr _)]; rfl
      have hbo : Below wr.heap.size wr (wr.alloc (.cells #[.int .i64 (xi : Int), .slice qa qn qc] 103)) := (Below.refl _ _).alloc (Nat.le_refl _) _
      have HBO := hid hbo
      clear hbo
      by_cases hxe : xi = i
      · have HT2 := hid (HTK.out.trans (if_pos hxe))
        have hxe' := hxe.symm
        clear hxe
        subst hxe'
        go_wp2_with fail
        go_roundw
        case rel => exact ⟨k + 1, hlt, by go_num, by rw [HT2.out]; exact HRK.out.below HBO.out, HB.out.trans (HBO.out.mono hsr)⟩
        case measure => simp [intOf]; omega
      · have hbe : ((xi : Int) == (i : Int)) = false := by rw [beq_eq_false_iff_ne]; omega
        have HT2 := hid (HTK.out.trans (if_neg hxe))
        have hxi2 : ¬ (xi : Int) = (i : Int) := by omega
        clear hxe
        go_wp2_with fail
        go_roundw
        case rel => exact ⟨k + 1, hlt, by go_num, by rw [HT2.out]; exact HR.out.below HBO.out, HB.out.trans (HBO.out.mono hsr)⟩
        case measure => simp [intOf]; omega
    · obtain rfl : k = wn := by omega
      have hall : s.way.take k = s.way := List.take_of_length_le (by have := HWL.out; omega)
      rw [hall] at HR
      have HLL := hid (lastAt_length s.way i (sect s.done i) HSL.out (fun x hx => (HOK.out.2.2.2.2.1 x hx).2))
      obtain ⟨L, hL⟩ : ∃ L, L = lastAt s.way i (sect s.done i) := ⟨_, rfl⟩
      rw [← hL] at HR HLL
      have HL := hid hL
      clear hL
      obtain ⟨pa, pc, epv⟩ := rd_slice HR.out.rd
      rw [HLL.out] at epv
      subst epv
      have HE2 := hid (Own.empty wr wr.heap.size (Nat.le_refl _))
      have HR2 := hid (HR.out.rd.alloc (.cells #[] 5))
      go_wp2_with (first | (at_builtin; (refine appw (by rfl) (.tmp 49) (.tmp 50) rfl wr.heap.size (.slice (some ⟨wr.heap.size, 0, none⟩) 0 0) _ [] L L 128 rfl rfl HE2.out HR2.out (by have := HLL.out; simp; omega) rfl (by have := HLL.out; simp; omega) (by simp) ?_); intro ad3 cp3 w3 ho3 hg3) | fail)
      go_ret2
      exact ⟨_, rfl, by rw [← HL.out]; exact ho3.base (fun k hk => by have := (ho3.lt k hk).1; omega), (HB.out.alloc hsr _).grown hg3 (by simp; omega) (fun k hk => by have : wr.heap.size = k := Option.some.inj hk; omega)⟩

end Go.Proofs.Ytbagpckiegpalaa

namespace Go.Proofs.Ytbagpckiegpalaa
open Go.RowKit

/-- What Get answers: fresh bytes, or nil. -/
def GotAns (w w' : World) (v : Value) (l : List UInt8) (e : Int) : Prop :=
  (e ≠ 0 ∧ l = [] ∧ v = .slice none 0 0 ∧ w = w') ∨ (e = 0 ∧ l.length = 128 ∧ Own w' w.heap.size v l ∧ Below w.heap.size w w')

theorem GotAns.below {w w' : World} {v : Value} {l : List UInt8} {e : Int} (h : GotAns w w' v l e) : Below w.heap.size w w' := by
  rcases h with ⟨_, _, _, rfl⟩ | ⟨_, _, _, h⟩
  · exact Below.refl _ _
  · exact h
theorem GotAns.rd {w w' : World} {v : Value} {l : List UInt8} {e : Int} (h : GotAns w w' v l e) : Rd w' v l := by
  rcases h with ⟨_, rfl, rfl, _⟩ | ⟨_, _, h, _⟩
  · exact Rd.nil _
  · exact h.rd

theorem refget_all (base : Bs) (rb gd cd : Nat) (wv : Value) (s : Sl) (i : Int) (w : World) (h : RefAt w base rb gd cd wv s) :
    Calls Try.prog 41 #[.pointer (some ⟨rb, 0, none⟩), .int .i64 i] w fun e w' => ∃ v, e = .returned (.tuple #[v, .int .i64 (s.got i).2]) ∧ GotAns w w' v (s.got i).1 (s.got i).2 := by
  obtain ⟨c0, c1, c2, c3, c4, hf⟩ := h.cells
  by_cases h1 : s.has i = false
  · have HE := hid (show s.got i = ([], 1) by unfold Sl.got; rw [if_pos h1])
    clear c1 c2 c3 c4 hf h
    by_cases h2 : i < 0
    · go_enter Try.func41, Try.ntmps41
      go_wp2
      go_ret2
      rw [HE.out]
      exact ⟨_, rfl, .inl ⟨by decide, rfl, rfl, rfl⟩⟩
    · have h3 : (s.n : Int) ≤ i := by simp [Sl.has] at h1; omega
      have h2' : 0 ≤ i := by omega
      go_enter Try.func41, Try.ntmps41
      go_wp2
      go_ret2
      rw [HE.out]
      exact ⟨_, rfl, .inl ⟨by decide, rfl, rfl, rfl⟩⟩
  · have h1' : s.has i = true := by simpa using h1
    have hb : 0 ≤ i ∧ i < (s.n : Int) := by simpa [Sl.has] using h1'
    obtain ⟨j, rfl⟩ := Int.eq_ofNat_of_zero_le hb.1
    have hge : ((s.n : Int) ≤ (j : Int)) = False := eq_false (by omega)
    have hb1 : (0 : Int) ≤ (j : Int) := by omega
    by_cases h3 : s.off = true
    · have HE := hid (show s.got (j : Int) = ([], 13) by unfold Sl.got; rw [if_neg h1, if_pos h3])
      rw [h3] at c2
      clear c1 c3 c4 hf h h1 h1' hb h3
      go_enter Try.func41, Try.ntmps41
      go_wp2
      go_ret2
      rw [HE.out]
      exact ⟨_, rfl, .inl ⟨by decide, rfl, rfl, rfl⟩⟩
    · have HE := hid (show s.got (j : Int) = (lastAt s.way j (sect s.done j), 0) by unfold Sl.got; rw [if_neg h1, if_neg h3, Int.toNat_natCast])
      have hok := h.okay
      refine (refget_any base rb gd cd wv s j w h (by omega) (by simpa using h3)).mono ?_
      rintro e w' ⟨v, rfl, h4, h5⟩
      rw [HE.out]
      exact ⟨v, rfl, .inr ⟨rfl, lastAt_length _ _ _ (sect_length _ _ s.n hok.2.2.2.1 (by omega)) (fun x hx => (hok.2.2.2.2.1 x hx).2), h4, h5⟩⟩

/-- Rows that read as f says. -/
def DoneF (w : World) (base : Bs) (gd cd : Nat) (n : Nat) (f : Nat → List UInt8) (DV : List Value) : Prop :=
  w.ownsRow base.n 32 1 (.slice (some ⟨gd, 0, none⟩) n cd) n DV ∧ ∀ i, i < n → RowB w base (DV.getD i zv) (f i)

theorem DoneF.set {w : World} {base : Bs} {gd cd n : Nat} {f : Nat → List UInt8} {DV : List Value} (h : DoneF w base gd cd n f DV) (i : Nat) (hi : i < n) (v : Value) (l : List UInt8) (hv : RowB w base v l) :
    DoneF (w.setCell ⟨gd, i, none⟩ v) base gd cd n (fun j => if j = i then l else f j) (DV.set i v) := by
  have hl := h.1.1
  obtain ⟨cur, hg⟩ := owns_type h.1 gd rfl
  have hk := keeps_set w gd i v
  have hS : ∀ g cs, base.P g → w.heap[g]? = some (.cells cs 5 (0, 0)) → ¬ g = gd := fun g cs _ hgs e => by
    subst e; rw [hg] at hgs; simp only [Option.some.injEq, Obj.cells.injEq] at hgs; exact absurd hgs.2.1 (by decide)
  refine ⟨(World.ownsRow.stored h.1 i v).1, fun j hj => ?_⟩
  show RowB _ _ _ (if j = i then l else f j)
  by_cases e : j = i
  · subst e
    rw [if_pos rfl, List.getD_eq_getElem?_getD, List.getElem?_set_self (by omega)]
    exact hv.keeps hk hS
  · rw [if_neg e, List.getD_eq_getElem?_getD, List.getElem?_set_ne (fun h => e h.symm), ← List.getD_eq_getElem?_getD]
    exact (h.2 j hj).keeps hk hS

theorem DoneF.below {w w' : World} {base : Bs} {gd cd n : Nat} {f : Nat → List UInt8} {DV : List Value} (h : DoneF w base gd cd n f DV) (hb : Below w.heap.size w w') : DoneF w' base gd cd n f DV :=
  ⟨owns_to h.1 fun k e => hb.block k (World.ownsRow.lt h.1 k e).2, fun i hi => (h.2 i hi).below hb⟩

theorem DoneF.keeps {S : Nat → Prop} {w w' : World} {base : Bs} {gd cd n : Nat} {f : Nat → List UInt8} {DV : List Value} (h : DoneF w base gd cd n f DV) (hk : Keeps S w w') (h1 : ¬ S gd) (hS : ∀ g cs, base.P g → w.heap[g]? = some (.cells cs 5 (0, 0)) → ¬ S g) : DoneF w' base gd cd n f DV :=
  ⟨owns_to h.1 fun k e => hk.block k (World.ownsRow.lt h.1 k e).2 (by have : gd = k := Option.some.inj e; subst this; exact h1), fun i hi => (h.2 i hi).keeps hk hS⟩

theorem DoneF.cell {w : World} {base : Bs} {gd cd n : Nat} {f : Nat → List UInt8} {DV : List Value} (h : DoneF w base gd cd n f DV) (i : Nat) (hi : i < n) : w.cell? ⟨gd, i, none⟩ = some (DV.getD i zv) ∧ w.frozen? ⟨gd, i, none⟩ = false := by
  have hl := h.1.1
  refine ⟨?_, World.ownsRow.frozenAt h.1 i⟩
  rw [World.ownsRow.cellAt (w := w) (g := gd) (cap := cd) (n := n) (xs := DV) ⟨h.1.1, h.1.2⟩ i (by omega), List.getD_eq_getElem?_getD, List.getElem?_eq_getElem (by omega)]
  rfl

theorem DoneF.to {w : World} {base : Bs} {gd cd n : Nat} {f f' : Nat → List UInt8} {DV : List Value} (h : DoneF w base gd cd n f DV) (hf : ∀ i, i < n → f i = f' i) : DoneF w base gd cd n f' DV := ⟨h.1, fun i hi => by rw [← hf i hi]; exact h.2 i hi⟩

/-- A flush, sector by sector, where what is read fits what is under way. -/
theorem flush_sect (s : Sl) (hok : s.ok) (hfit : s.fits) (j : Nat) (hj : j < s.n) : sect s.flush.done j = lastAt s.way j (sect s.done j) := by
  obtain ⟨o1, o2, o3, o4, o5, o6, o7⟩ := hok
  show sect (doneAll s.now s.done s.way) j = _
  rw [doneAll_sect s.now j s.n o3 s.way s.done o4 (fun x hx => (o5 x hx).1)]
  by_cases e : (s.way.any fun x => x.1 == j) = true
  · rw [if_pos e]; exact hfit j hj
  · rw [if_neg e, lastAt_any _ _ _ (eq_false_of_ne_true e)]

theorem refflush_nil (w : World) :
    Calls Try.prog 22 #[.pointer none] w fun e w' => e = .returned (.int .i64 6) ∧ w = w' := by
  go_enter Try.func22, Try.ntmps22
  go_wp2
  go_ret
  exact ⟨rfl, rfl⟩

set_option maxRecDepth 100000 in
set_option maxHeartbeats 4000000 in
theorem refflush_any (base : Bs) (rb gd cd : Nat) (wv : Value) (s : Sl) (w : World) (h : RefAt w base rb gd cd wv s) (hfit : s.fits) (hst : s.steps ≤ 1000000) (ho : s.off = false) (ha : s.armed ≠ 1) (hP : ∀ g, w.heap.size ≤ g → base.P g) :
    Calls Try.prog 22 #[.pointer (some ⟨rb, 0, none⟩)] w fun e w' => e = .returned (.int .i64 0) ∧ RefAt w' base rb gd cd (.slice none 0 0) s.step.flush ∧ Keeps (fun k => k = rb ∨ k = gd) w w' := by
  obtain ⟨c0, c1, c2, c3, c4, hf⟩ := h.cells
  rw [ho] at c2
  have HS := hid (refstep_any base rb gd cd wv s w h hst)
  have HOF := hid (show s.step.off = false by simp [Sl.step, ho, ha])
  obtain ⟨s1, hs1⟩ : ∃ s1, s1 = s.step := ⟨_, rfl⟩
  rw [← hs1] at HS HOF
  have HF1 := hid (show s1.fits by rw [hs1]; exact Sl.step_fits hfit)
  rw [← hs1]
  clear h hf ho ha c0 c1 c3 c4 hs1
  go_enter Try.func22, Try.ntmps22
  go_wp2_with fail
  refine HS.out.mono ?_
  rintro e w1 ⟨rfl, h1, hk1⟩
  rw [HOF.out]
  have H1 := hid h1
  have HK1 := hid hk1
  obtain ⟨d0, d1, d2, d3, d4, hf1⟩ := h1.cells
  have hok := h1.okay
  have HOK := hid hok
  obtain ⟨p1, p2, p3, p4, p5, p6⟩ := h1.apart
  have HAP := hid p2
  have HPP := hid hP
  have hs1w := hk1.size
  clear hP
  have HAT := hid p3
  have hb3 : s1.n ≤ 4096 := hok.2.1
  obtain ⟨DV0, hd0⟩ : ∃ DV, DoneF w1 base gd cd s1.n (fun j => sect s1.done j) DV := h1.2.1
  obtain ⟨PW, hp⟩ := h1.2.2.1
  have HWP := hid hp
  have HD0 := hid hd0
  have hcd : s1.n ≤ cd ∧ cd ≤ 9223372036854775807 := by
    rcases hd0.1.2 with ⟨e, _⟩ | ⟨g, cap, cur, e, _, _, q1, q2, _⟩
    · cases e
    · simp only [Value.slice.injEq] at e
      obtain ⟨_, _, rfl⟩ := e
      unfold maxLen at q2
      omega
  obtain ⟨hcd1, hcd2⟩ := hcd
  obtain ⟨wl, hwl⟩ : ∃ wl, wl = s1.way.length := ⟨_, rfl⟩
  have HWL := hid hwl
  obtain ⟨wa, wn, wc, ewv⟩ := owns_slice5 hp.1
  have hwn : wn = wl := by
    rw [hwl]
    rcases hp.1.2 with ⟨e, hn⟩ | ⟨g, cap, cur, e, _⟩
    · rw [ewv] at e; simp only [Value.slice.injEq] at e; omega
    · rw [ewv] at e; simp only [Value.slice.injEq] at e; omega
  subst hwn
  subst ewv
  have hwm : wn ≤ 1000000 := by rw [hwl]; exact hok.2.2.2.2.2.1
  clear h1 hf1 hok hd0 hp hwl p2 p3 hk1
  go_wp2_with fail
  go_loopw [21] (fun i' wr => ∃ (k : Nat) (DV : List Value), k ≤ wn ∧ i' = .int .i64 k ∧ Keeps (fun j => j = gd) w1 wr ∧ DoneF wr base gd cd s1.n (fun j => lastAt (s1.way.take k) j (sect s1.done j)) DV) (fun i' _ => wn - (intOf i').toNat)
  case atStart => exact ⟨0, DV0, Nat.zero_le _, rfl, Keeps.refl _ _, HD0.out⟩
  case round =>
    obtain ⟨k, DV, hk, rfl, hkr, hd⟩ := hrel
    have HKR := hid hkr
    have HD := hid hd
    have hsr := hkr.size
    have HRB := hid ((hkr.block rb p5 p1).trans H1.out.1)
    clear hkr hd
    by_cases hlt : k < wn
    · obtain ⟨g, c, ev, hg, hc1, hc2, hat⟩ := HWP.out.at (by have := HWL.out; omega)
      simp only [Value.slice.injEq] at ev
      obtain ⟨e1, e2x, e3⟩ := ev
      clear e2x
      subst e1 e3
      have hgg : g ≠ gd := (HAP.out g rfl).2
      obtain ⟨a0, a1⟩ := hat k (by have := HWL.out; omega)
      have g0 := (HKR.out.cell (p := ⟨g, k * 2, none⟩) hg hgg).trans a0
      have g1 := (HKR.out.cell (p := ⟨g, k * 2 + 1, none⟩) hg hgg).trans a1
      have HRK := hid ((HWP.out.2.2 k (by have := HWL.out; omega)).2.keeps HKR.out (fun q cs _ hq => (HAT.out q cs hq).2.1))
      obtain ⟨x, hx⟩ : ∃ x, x = s1.way.getD k (0, []) := ⟨_, rfl⟩
      have hxm : x ∈ s1.way := by rw [hx]; exact getD_mem _ _ _ (by have := HWL.out; omega)
      have hx1 := (HOK.out.2.2.2.2.1 x hxm).1
      have HX2 := hid (HOK.out.2.2.2.2.1 x hxm).2
      obtain ⟨pk, hpk⟩ : ∃ pk, pk = (PW.getD k (0, zv)).2 := ⟨_, rfl⟩
      rw [← hx] at g0
      rw [← hpk] at g1 HRK
      rw [← hx] at HRK
      have HTK := hid (show ∀ j, lastAt (s1.way.take (k + 1)) j (sect s1.done j) = if x.1 = j then x.2 else lastAt (s1.way.take k) j (sect s1.done j) by
        intro j
        rw [List.take_succ_eq_append_getElem (by have := HWL.out; omega), lastAt_snoc, hx, List.getD_eq_getElem?_getD, List.getElem?_eq_getElem (by have := HWL.out; omega)]
        rfl)
      have hcm : wn ≤ wc := by have := HWL.out; omega
      have hcm2 : wc ≤ 9223372036854775807 := hc2
      obtain ⟨qa, qc, eq⟩ := rd_slice HRK.out.rd
      rw [HX2.out] at eq
      subst eq
      obtain ⟨xi, hxi⟩ : ∃ xi, xi = x.1 := ⟨_, rfl⟩
      rw [← hxi] at g0 HTK hx1
      have hxi1 : (xi : Int) < (s1.n : Int) := by omega
      have hxi0 : (0 : Int) ≤ (xi : Int) := by omega
      clear a0 a1 hat hx hpk hxi hxm d0 d1 d2 d3 d4 c2
      go_wp2_with fail
      obtain ⟨wo, hwo⟩ : ∃ wo, wo = wr.alloc (.cells #[.int .i64 (xi : Int), .slice qa 128 qc] 103) := ⟨_, rfl⟩
      have HGO := hid (show wo.heap[wr.heap.size]? = some (.cells #[.int .i64 (xi : Int), .slice qa 128 qc] 103 (0, 0)) by rw [hwo]; exact heap_alloc_new wr _)
      have hbo : Below wr.heap.size wr wo := by rw [hwo]; exact (Below.refl _ _).alloc (Nat.le_refl _) _
      have HBO := hid hbo
      have hso : wr.heap.size < wo.heap.size := by rw [hwo]; simp
      have e0 : wo.cell? ⟨wr.heap.size, 0, none⟩ = some (.int .i64 (xi : Int)) := (cell_of_row _ _ _ _ _ _ HGO.out).trans rfl
      have e1 : wo.cell? ⟨wr.heap.size, 1, none⟩ = some (.slice qa 128 qc) := (cell_of_row _ _ _ _ _ _ HGO.out).trans rfl
      have HRB2 := hid ((hbo.block rb (by omega)).trans HRB.out)
      have e2 : wo.cell? ⟨rb, 0, none⟩ = some (.slice (some ⟨gd, 0, none⟩) s1.n cd) := (cell_of_row _ _ _ _ _ _ HRB2.out).trans rfl
      have HDo := hid (HD.out.below hbo)
      have HRKo := hid ((HRK.out.rd.below hbo).drew.alloc (.cells #[] 5))
      have HE0 := hid (Own.empty wo.drew wo.heap.size (Nat.le_refl _))
      rw [← hwo]
      clear hwo hbo
      have hrb : rb ≠ gd := p1
      have hwg : wr.heap.size ≠ gd := by omega
      have hrs : rb < wo.heap.size := by omega
      go_region_held3 (fun w' => w'.cell? ⟨rb, 0, none⟩ = some (.slice (some ⟨gd, 0, none⟩) s1.n cd) ∧ w'.cell? ⟨wr.heap.size, 0, none⟩ = some (.int .i64 (xi : Int)) ∧ w'.cell? ⟨wr.heap.size, 1, none⟩ = some (.slice qa 128 qc))
        (first
          | (refine ⟨?_, ?_, ?_⟩ <;> assumption)
          | (refine ⟨?_, ?_, ?_⟩ <;> first | exact (hB3.cell (p := ⟨rb, 0, none⟩) hrs).trans (by assumption) | exact (hB3.cell (p := ⟨wr.heap.size, 0, none⟩) hso).trans (by assumption) | exact (hB3.cell (p := ⟨wr.heap.size, 1, none⟩) hso).trans (by assumption) | fail)
          | (refine ⟨?_, ?_, ?_⟩ <;> first | exact ((keeps_set w3 gd xi _).cell (p := ⟨rb, 0, none⟩) (Nat.lt_of_lt_of_le hrs hB3.size) hrb).trans (by assumption) | exact ((keeps_set w3 gd xi _).cell (p := ⟨wr.heap.size, 0, none⟩) (Nat.lt_of_lt_of_le hso hB3.size) hwg).trans (by assumption) | exact ((keeps_set w3 gd xi _).cell (p := ⟨wr.heap.size, 1, none⟩) (Nat.lt_of_lt_of_le hso hB3.size) hwg).trans (by assumption) | fail)
          | (refine ⟨?_, ?_, ?_⟩ <;> first | exact (((Below.refl wo.heap.size wo.drew).alloc (Nat.le_refl _) _).cell (p := ⟨rb, 0, none⟩) hrs).trans (by assumption) | exact (((Below.refl wo.heap.size wo.drew).alloc (Nat.le_refl _) _).cell (p := ⟨wr.heap.size, 0, none⟩) hso).trans (by assumption) | exact (((Below.refl wo.heap.size wo.drew).alloc (Nat.le_refl _) _).cell (p := ⟨wr.heap.size, 1, none⟩) hso).trans (by assumption) | fail)
          | fail)
        (first | (refine appst (by rfl) (.tmp 31) (.tmp 33) rfl wo.heap.size (.slice (some ⟨wo.heap.size, 0, none⟩) 0 0) _ [] x.2 x.2 128 rfl rfl HE0.out HRKo.out (by have := HX2.out; simp; omega) rfl (by have := HX2.out; simp; omega) (by simp) ?_; intro ad3 cp3 w3 ho3 hg3; have hB3 : Below wo.heap.size wo w3 := (((Below.refl wo.heap.size wo).drew).alloc (Nat.le_refl _) (.cells #[] 5)).grown hg3 (by simp) (fun k hk => by have : wo.heap.size = k := Option.some.inj hk; omega); have HO3 := hid ho3; have HD3 := hid (HDo.out.below hB3); have e3 := (HD3.out.cell xi hx1).1; have f3 := (HD3.out.cell xi hx1).2; have k30 := (hB3.cell (p := ⟨rb, 0, none⟩) hrs).trans e2; have k31 := (hB3.cell (p := ⟨wr.heap.size, 0, none⟩) hso).trans e0; have k32 := (hB3.cell (p := ⟨wr.heap.size, 1, none⟩) hso).trans e1; clear ho3 hg3) | fail)
      have HV3 := hid (RowB.of_own (base := base) HO3.out (by have := HX2.out; omega) (fun g hg => HPP.out g (by omega)))
      have HD4 := hid (HD3.out.set xi hx1 (.slice ad3 128 cp3) x.2 HV3.out)
      have HK4 := hid (show Keeps (fun j => j = gd) w1 (w3.setCell ⟨gd, xi, none⟩ (.slice ad3 128 cp3)) from (HKR.out.trans ((Keeps.of_below HBO.out (fun i h1 h2 => by omega) : Keeps (fun j => j = gd) wr wo).trans (Keeps.of_below hB3 (fun i h1 h2 => by omega)))).trans (keeps_set _ _ _ _))
      go_wp2
      go_roundw
      case rel =>
        refine ⟨k + 1, DV.set xi (.slice ad3 128 cp3), hlt, by go_num, HK4.out, HD4.out.to (fun j hj => ?_)⟩
        show (if j = xi then x.2 else lastAt (s1.way.take k) j (sect s1.done j)) = _
        rw [HTK.out j]
        by_cases e : j = xi
        · rw [if_pos e, if_pos e.symm]
        · rw [if_neg e, if_neg (fun h => e h.symm)]
      case measure => simp [intOf]; omega
    · obtain rfl : k = wn := by omega
      have hall : s1.way.take k = s1.way := List.take_of_length_le (by have := HWL.out; omega)
      rw [hall] at HD
      have e2 : wr.cell? ⟨rb, 1, none⟩ = some (.slice wa k wc) := (cell_of_row _ _ _ _ _ _ HRB.out).trans rfl
      have f2 : wr.frozen? ⟨rb, 1, none⟩ = false := frozen_of_row _ _ _ _ _ HRB.out
      go_wp2
      go_ret
      obtain ⟨o1, o2, o3, o4, o5, o6, o7⟩ := HOK.out
      have hk2 := keeps_set wr rb 1 (.slice none 0 0)
      have hn0 : WayAt (wr.setCell ⟨rb, 1, none⟩ (.slice none 0 0)) base (.slice none 0 0) [] [] := ⟨World.ownsRow_nil _ _ _ _, rfl, fun i hi => absurd hi (by simp)⟩
      have hgt : ∀ q cs, base.P q → wr.heap[q]? = some (.cells cs 5 (0, 0)) → ¬ q = rb := fun q cs _ hq e => by
        subst e; rw [HRB.out] at hq; simp only [Option.some.injEq, Obj.cells.injEq] at hq; exact absurd hq.2.1 (by decide)
      refine ⟨rfl, ⟨(heap_setCell_same _ _ _ _ _ _ HRB.out).trans (by simp [Sl.flush]), ⟨DV, ?_⟩, ⟨[], hn0⟩, H1.out.2.2.2.1, ?_⟩, ?_⟩
      · have := (HD.out.to (f' := fun j => sect s1.flush.done j) (fun j hj => (flush_sect s1 HOK.out HF1.out j hj).symm)).keeps hk2 (fun e => p1 e.symm) hgt
        exact this
      · exact ⟨o1, o2, o3, doneAll_length _ _ o3 _ _ o4 (fun x hx => (o5 x hx).1), (fun x hx => by cases hx), by simp [Sl.flush], o7⟩
      · exact ((HK1.out.mono (fun _ _ e => .inl e)).trans' HKR.out (fun _ _ e => .inr e)).trans' hk2 (fun _ _ e => .inl e)

end Go.Proofs.Ytbagpckiegpalaa

namespace Go.Proofs.Ytbagpckiegpalaa
open Go.RowKit

theorem refflush_all (base : Bs) (rb gd cd : Nat) (wv : Value) (s : Sl) (w : World) (h : RefAt w base rb gd cd wv s) (hfit : s.fits) (hst : s.steps ≤ 1000000) (hP : ∀ g, w.heap.size ≤ g → base.P g) :
    Calls Try.prog 22 #[.pointer (some ⟨rb, 0, none⟩)] w fun e w' => ∃ v', e = .returned (.int .i64 s.flushed.2) ∧ RefAt w' base rb gd cd v' s.flushed.1 ∧ Keeps (fun k => k = rb ∨ k = gd) w w' := by
  by_cases h1 : s.off = true
  · have HE := hid (show s.flushed = (s, 13) by unfold Sl.flushed; rw [if_pos h1])
    obtain ⟨c0, c1, c2, c3, c4, hf⟩ := h.cells
    rw [h1] at c2
    have H := hid h
    clear c0 c1 c3 c4 hf h h1
    go_enter Try.func22, Try.ntmps22
    go_wp2
    go_ret
    rw [HE.out]
    first | exact ⟨wv, rfl, H.out, Keeps.refl _ _⟩ | exact ⟨rfl, ⟨wv, H.out⟩, Keeps.refl _ _⟩
  · by_cases h2 : s.armed = 1
    · have HE := hid (show s.flushed = (s.step, 13) by unfold Sl.flushed; rw [if_neg h1, if_pos h2])
      have HS := hid (refstep_any base rb gd cd wv s w h hst)
      have HOF := hid (show s.step.off = true by simp [Sl.step, h2])
      obtain ⟨c0, c1, c2, c3, c4, hf⟩ := h.cells
      have ho : s.off = false := by simpa using h1
      rw [ho] at c2
      clear c0 c1 c3 c4 hf h h1 h2 ho
      go_enter Try.func22, Try.ntmps22
      go_wp2_with fail
      refine HS.out.mono ?_
      rintro e w1 ⟨rfl, h1, hk1⟩
      rw [HOF.out]
      go_wp2
      go_ret
      rw [HE.out]
      first | exact ⟨wv, rfl, h1, hk1.mono (fun _ _ e => .inl e)⟩ | exact ⟨rfl, ⟨wv, h1⟩, hk1.mono (fun _ _ e => .inl e)⟩
    · have HE := hid (show s.flushed = (s.step.flush, 0) by unfold Sl.flushed; rw [if_neg h1, if_neg h2])
      refine (refflush_any base rb gd cd wv s w h hfit hst (by simpa using h1) h2 hP).mono ?_
      rintro e w1 ⟨rfl, h4, h5⟩
      rw [HE.out]
      exact ⟨_, rfl, h4, h5⟩

/-- Is the byte m written, at the fate f? -/
def mixOn (f : Nat) (cut : Int) (m : Nat) : Prop := f = 1 ∨ (f = 2 ∧ (m : Int) < cut) ∨ (f = 3 ∧ ¬ (m : Int) < cut)
instance (f : Nat) (cut : Int) (m : Nat) : Decidable (mixOn f cut m) := by unfold mixOn; infer_instance
def mixUpto (f : Nat) (cut : Int) (q d : List UInt8) (m : Nat) : List UInt8 := (List.range m).foldl (fun p i => if mixOn f cut i then p.set i (q.getD i 0) else p) d
theorem mixUpto_succ (f : Nat) (cut : Int) (q d : List UInt8) (m : Nat) : mixUpto f cut q d (m + 1) = if mixOn f cut m then (mixUpto f cut q d m).set m (q.getD m 0) else mixUpto f cut q d m := by
  unfold mixUpto
  rw [List.range_succ, List.foldl_append]
  rfl
theorem mixUpto_length (f : Nat) (cut : Int) (q d : List UInt8) : ∀ m, (mixUpto f cut q d m).length = d.length
  | 0 => rfl
  | m + 1 => by
    rw [mixUpto_succ]
    split
    · rw [List.length_set]; exact mixUpto_length f cut q d m
    · exact mixUpto_length f cut q d m
theorem mixUpto_get (f : Nat) (cut : Int) (q d : List UInt8) (hq : q.length = d.length) : ∀ m, m ≤ d.length → ∀ i, (mixUpto f cut q d m)[i]? = if i < m ∧ mixOn f cut i then q[i]? else d[i]?
  | 0, _, i => by rw [if_neg (by omega)]; rfl
  | m + 1, hm, i => by
    have ih := mixUpto_get f cut q d hq m (by omega) i
    have hl := mixUpto_length f cut q d m
    rw [mixUpto_succ]
    by_cases ho : mixOn f cut m
    · rw [if_pos ho]
      by_cases e : i = m
      · subst e
        rw [List.getElem?_set_self (by omega), if_pos ⟨by omega, ho⟩, List.getD_eq_getElem?_getD, List.getElem?_eq_getElem (by omega)]
        rfl
      · rw [List.getElem?_set_ne (fun h => e h.symm), ih]
        by_cases h1 : i < m ∧ mixOn f cut i
        · rw [if_pos h1, if_pos ⟨by omega, h1.2⟩]
        · rw [if_neg h1, if_neg (fun h => h1 ⟨by omega, h.2⟩)]
    · rw [if_neg ho, ih]
      by_cases h1 : i < m ∧ mixOn f cut i
      · rw [if_pos h1, if_pos ⟨by omega, h1.2⟩]
      · rw [if_neg h1, if_neg (fun h => h1 ⟨by
          rcases Nat.lt_or_ge i m with h' | h'
          · exact h'
          · exact absurd (show mixOn f cut m from by rw [show m = i by omega]; exact h.2) ho, h.2⟩)]

theorem mix_torn (fates : List UInt8) (cut : Int) (k : Nat) (q d : List UInt8) (hq : q.length = 128) (hd : d.length = 128) : mixUpto (fateOf fates k) cut q d 128 = tornOne fates (cutOf cut) k q d := by
  have hc := cutOf_le cut
  have hf := fateOf_lt fates k
  have hk := kept_le (fateOf fates k) (cutOf cut) hc
  have hl : ((q.drop (keptFrom (fateOf fates k) (cutOf cut))).take (keptUpto (fateOf fates k) (cutOf cut) - keptFrom (fateOf fates k) (cutOf cut))).length = keptUpto (fateOf fates k) (cutOf cut) - keptFrom (fateOf fates k) (cutOf cut) := by rw [List.length_take, List.length_drop]; omega
  have hcm : ∀ i : Nat, i < 128 → (i < cutOf cut ↔ (i : Int) < cut) := by intro i hi; unfold cutOf; omega
  apply List.ext_getElem?
  intro i
  rw [mixUpto_get _ _ _ _ (by omega) 128 (by omega)]
  unfold tornOne
  rw [splice_get _ _ _ (by omega)]
  by_cases hi : i < 128
  · have hci := hcm i hi
    obtain ⟨f, hff⟩ : ∃ f, f = fateOf fates k := ⟨_, rfl⟩
    rw [← hff] at hf hk hl ⊢
    have hmid : ∀ (a b : Nat), a ≤ i → i < b → b ≤ 128 → ((q.drop a).take (b - a))[i - a]? = q[i]? := by
      intro a b h1 h2 h3
      rw [List.getElem?_take_of_lt (by omega), List.getElem?_drop]
      congr 1
      omega
    by_cases hon : mixOn f cut i
    · rw [if_pos ⟨hi, hon⟩]
      have h1 : keptFrom f (cutOf cut) ≤ i ∧ i < keptUpto f (cutOf cut) := by
        rcases hon with rfl | ⟨rfl, h⟩ | ⟨rfl, h⟩
        · simp [keptFrom, keptUpto]; omega
        · have := hci.2 h; simp [keptFrom, keptUpto]; omega
        · have : ¬ i < cutOf cut := fun h' => h (hci.1 h'); simp [keptFrom, keptUpto]; omega
      rw [if_neg (by omega), if_pos (by omega)]
      exact (hmid _ _ h1.1 h1.2 hk.2).symm
    · rw [if_neg (fun h => hon h.2)]
      have h1 : i < keptFrom f (cutOf cut) ∨ keptUpto f (cutOf cut) ≤ i := by
        have h4 : f = 0 ∨ f = 1 ∨ f = 2 ∨ f = 3 := by omega
        rcases h4 with rfl | rfl | rfl | rfl
        · right; simp [keptUpto]
        · exact absurd (.inl rfl) hon
        · right
          have : ¬ i < cutOf cut := fun h => hon (.inr (.inl ⟨rfl, hci.1 h⟩))
          simp [keptUpto]; omega
        · left
          have : i < cutOf cut := by
            rcases Nat.lt_or_ge i (cutOf cut) with h | h
            · exact h
            · exact absurd (.inr (.inr ⟨rfl, fun h' => by have := hci.2 h'; omega⟩)) hon
          simp [keptFrom]; omega
      rcases h1 with h1 | h1
      · rw [if_pos h1]
      · by_cases h2 : i < keptFrom f (cutOf cut)
        · rw [if_pos h2]
        · rw [if_neg h2, if_neg (by omega)]
  · rw [if_neg (fun h => hi h.1)]
    have e1 : d[i]? = none := List.getElem?_eq_none (by omega)
    rw [e1]
    by_cases h2 : i < keptFrom (fateOf fates k) (cutOf cut)
    · rw [if_pos h2]
    · rw [if_neg h2, if_neg (by omega)]

theorem tornOne_length (fates : List UInt8) (cut k : Nat) (q d : List UInt8) (hc : cut ≤ 128) (hd : d.length = 128) (hq : q.length = 128) : (tornOne fates cut k q d).length = 128 := by
  have := kept_le (fateOf fates k) cut hc
  unfold tornOne
  rw [splice_length _ _ _ (by rw [List.length_take, List.length_drop]; omega), hd]
theorem tornUpto_length (fates : List UInt8) (cut : Nat) (ws : List (Nat × List UInt8)) (j : Nat) (d : List UInt8) (hc : cut ≤ 128) (hd : d.length = 128) (hw : ∀ x ∈ ws, x.2.length = 128) : ∀ k, k ≤ ws.length → (tornUpto fates cut ws j d k).length = 128
  | 0, _ => hd
  | k + 1, hk => by
    rw [tornUpto_succ]
    have ih := tornUpto_length fates cut ws j d hc hd hw k (by omega)
    split
    · exact tornOne_length fates cut k _ _ hc ih (hw _ (getD_mem ws k (0, []) (by omega)))
    · exact ih

theorem refcrash_nil (fv : Value) (cut : Int) (w : World) (hf : ∃ a n c, fv = .slice a n c) :
    Calls Try.prog 26 #[.pointer none, fv, .int .i64 cut] w fun e w' => e = .returned (.int .i64 6) ∧ w = w' := by
  obtain ⟨a, n, c, rfl⟩ := hf
  go_enter Try.func26, Try.ntmps26
  go_wp2
  go_ret
  exact ⟨rfl, rfl⟩

theorem Below.setCell' {B : Nat} {w : World} (g : Nat) (hg : B ≤ g) (j : Nat) (v : Value) : Below B w (w.setCell ⟨g, j, none⟩ v) :=
  ⟨rfl, rfl, rfl, by simp [World.setCell], fun k hk => Below.heap_setCell _ _ _ _ (by show k ≠ g; omega)⟩

set_option maxRecDepth 100000 in
set_option maxHeartbeats 8000000 in
theorem refcrash_any (base : Bs) (rb gd cd : Nat) (wv : Value) (s : Sl) (fv : Value) (fates : List UInt8) (cut : Int) (w : World) (h : RefAt w base rb gd cd wv s) (hrd : Rd w fv fates) (hfb : fates ≠ [] → ∀ k, fv.ownBlock = some k → k ≠ gd) (hP : ∀ g, w.heap.size ≤ g → base.P g) :
    Calls Try.prog 26 #[.pointer (some ⟨rb, 0, none⟩), fv, .int .i64 cut] w fun e w' => e = .returned (.int .i64 0) ∧ RefAt w' base rb gd cd (.slice none 0 0) (s.crash fates cut) ∧ Keeps (fun k => k = rb ∨ k = gd) w w' := by
  obtain ⟨d0, d1, d2, d3, d4, hf1⟩ := h.cells
  have H := hid h
  have hok := h.okay
  have HOK := hid hok
  obtain ⟨p1, p2, p3, p4, p5, p6⟩ := h.apart
  have HAP := hid p2
  have HPP := hid hP
  clear hP
  have HAT := hid p3
  have hb3 : s.n ≤ 4096 := hok.2.1
  obtain ⟨DV0, hd0⟩ : ∃ DV, DoneF w base gd cd s.n (fun j => sect s.done j) DV := h.2.1
  obtain ⟨PW, hp⟩ := h.2.2.1
  have HWP := hid hp
  have HD0 := hid hd0
  have hcd : s.n ≤ cd ∧ cd ≤ 9223372036854775807 := by
    rcases hd0.1.2 with ⟨e, _⟩ | ⟨g, cap, cur, e, _, _, q1, q2, _⟩
    · cases e
    · simp only [Value.slice.injEq] at e
      obtain ⟨_, _, rfl⟩ := e
      unfold maxLen at q2
      omega
  obtain ⟨hcd1, hcd2⟩ := hcd
  obtain ⟨wl, hwl⟩ : ∃ wl, wl = s.way.length := ⟨_, rfl⟩
  have HWL := hid hwl
  obtain ⟨wa, wn, wc, ewv⟩ := owns_slice5 hp.1
  have hwn : wn = wl := by
    rw [hwl]
    rcases hp.1.2 with ⟨e, hn⟩ | ⟨g, cap, cur, e, _⟩
    · rw [ewv] at e; simp only [Value.slice.injEq] at e; omega
    · rw [ewv] at e; simp only [Value.slice.injEq] at e; omega
  subst hwn
  subst ewv
  have hwm : wn ≤ 1000000 := by rw [hwl]; exact hok.2.2.2.2.2.1
  have HFR := hid hrd
  have HFB := hid hfb
  obtain ⟨fa, fc, hfv, hfl1, hfl2, _⟩ := hrd
  obtain ⟨fl, hfl⟩ : ∃ fl, fl = fates.length := ⟨_, rfl⟩
  rw [← hfl] at hfv hfl1
  unfold maxLen at hfl2
  subst hfv
  have HFL := hid hfl
  clear h hf1 hok hd0 hp hwl p2 p3 hfb hfl
  go_enter Try.func26, Try.ntmps26
  go_wp2_with fail
  go_loopw [20] (fun i' wr => ∃ (k : Nat) (DV : List Value), k ≤ wn ∧ i' = .int .i64 k ∧ Keeps (fun j => j = gd) w wr ∧ DoneF wr base gd cd s.n (fun j => tornUpto fates (cutOf cut) s.way j (sect s.done j) k) DV) (fun i' _ => wn - (intOf i').toNat)
  case atStart => exact ⟨0, DV0, Nat.zero_le _, rfl, Keeps.refl _ _, HD0.out⟩
  case round =>
    obtain ⟨k, DV, hk, rfl, hkr, hd⟩ := hrel
    have HKR := hid hkr
    have HD := hid hd
    have hsr := hkr.size
    have HRB := hid ((hkr.block rb p5 p1).trans H.out.1)
    clear hkr hd
    by_cases hlt : k < wn
    · obtain ⟨g, c, ev, hg, hc1, hc2, hat⟩ := HWP.out.at (by have := HWL.out; omega)
      simp only [Value.slice.injEq] at ev
      obtain ⟨e1, e2x, e3⟩ := ev
      clear e2x
      subst e1 e3
      have hgg : g ≠ gd := (HAP.out g rfl).2
      obtain ⟨a0, a1⟩ := hat k (by have := HWL.out; omega)
      have g0 := (HKR.out.cell (p := ⟨g, k * 2, none⟩) hg hgg).trans a0
      have g1 := (HKR.out.cell (p := ⟨g, k * 2 + 1, none⟩) hg hgg).trans a1
      have HRK := hid ((HWP.out.2.2 k (by have := HWL.out; omega)).2.keeps HKR.out (fun q cs _ hq => (HAT.out q cs hq).2.1))
      obtain ⟨x, hx⟩ : ∃ x, x = s.way.getD k (0, []) := ⟨_, rfl⟩
      have hxm : x ∈ s.way := by rw [hx]; exact getD_mem _ _ _ (by have := HWL.out; omega)
      have hx1 := (HOK.out.2.2.2.2.1 x hxm).1
      have HX2 := hid (HOK.out.2.2.2.2.1 x hxm).2
      obtain ⟨pk, hpk⟩ : ∃ pk, pk = (PW.getD k (0, zv)).2 := ⟨_, rfl⟩
      rw [← hx] at g0
      rw [← hpk] at g1 HRK
      rw [← hx] at HRK
      have HTK := hid (show ∀ j, tornUpto fates (cutOf cut) s.way j (sect s.done j) (k + 1) = if j = x.1 then tornOne fates (cutOf cut) k x.2 (tornUpto fates (cutOf cut) s.way j (sect s.done j) k) else tornUpto fates (cutOf cut) s.way j (sect s.done j) k by
        intro j
        rw [tornUpto_succ, ← hx])
      have hcm : wn ≤ wc := by have := HWL.out; omega
      have hcm2 : wc ≤ 9223372036854775807 := hc2
      obtain ⟨qa, qc, eq⟩ := rd_slice HRK.out.rd
      rw [HX2.out] at eq
      subst eq
      obtain ⟨xi, hxi⟩ : ∃ xi, xi = x.1 := ⟨_, rfl⟩
      rw [← hxi] at g0 HTK hx1
      have hxi1 : (xi : Int) < (s.n : Int) := by omega
      have hxi0 : (0 : Int) ≤ (xi : Int) := by omega
      obtain ⟨f, hff⟩ : ∃ f, f = fateOf fates k := ⟨_, rfl⟩
      have hf4 : f < 4 := by rw [hff]; exact fateOf_lt _ _
      have HFF := hid hff
      have HFW := hid (rd_keepsE HFR.out HKR.out (fun hne q hq => HFB.out hne q hq))
      clear a0 a1 hat hx hpk hxi hxm d0 d1 d2 d3 d4 hff
      have hA : ∃ y : Nat, (k < fl → ∃ b off, fa = some ⟨b, off, none⟩ ∧ wr.cell? ⟨b, off + k, none⟩ = some (.int .u8 (y : Int)) ∧ y % 4 = f) ∧ (¬ k < fl → f = 0) := by
        by_cases hkl : k < fl
        · obtain ⟨b, off, cap, ev, _, _, _, hcs⟩ := HFW.out.pos (by have := HFL.out; omega)
          simp only [Value.slice.injEq] at ev
          have := hcs k (by have := HFL.out; omega)
          exact ⟨(fates.getD k 0).toNat, fun _ => ⟨b, off, ev.1, this, by rw [HFF.out]; unfold fateOf; rw [if_pos (by have := HFL.out; omega)]⟩, fun h => absurd hkl h⟩
        · exact ⟨0, fun h => absurd h hkl, fun _ => by rw [HFF.out]; unfold fateOf; rw [if_neg (by have := HFL.out; omega)]⟩
      obtain ⟨y, hy1, hy2⟩ := hA
      have hparts : (k < fl ∧ ∃ b off, fa = some ⟨b, off, none⟩ ∧ wr.cell? ⟨b, off + k, none⟩ = some (.int .u8 (y : Int)) ∧ y % 4 = f) ∨ (¬ k < fl ∧ f = 0) := by
        by_cases hkl : k < fl
        · exact .inl ⟨hkl, hy1 hkl⟩
        · exact .inr ⟨hkl, hy2 hkl⟩
      clear hy1 hy2
      have HMORE := hid True.intro
      rcases hparts with ⟨hkl, fb, foff, efa, hyc, hyf⟩ | ⟨hkl, hf0⟩
      · subst efa
        have hyi : (y : Int) % 4 = (f : Int) := by omega
        have hkli : (k : Int) < (fl : Int) := by omega
        have hyo : (wr.alloc (.cells #[.int .i64 (xi : Int), .slice qa 128 qc] 103)).cell? ⟨fb, foff + k, none⟩ = some (.int .u8 (y : Int)) := (((Below.refl wr.heap.size wr).alloc (Nat.le_refl _) _).cell (p := ⟨fb, foff + k, none⟩) (by have := World.block_lt_of_cell? _ _ hyc; exact this)).trans hyc
        clear hyf
        go_wp2_with fail
        obtain ⟨wo, hwo⟩ : ∃ wo, wo = wr.alloc (.cells #[.int .i64 (xi : Int), .slice qa 128 qc] 103) := ⟨_, rfl⟩
        have HGO := hid (show wo.heap[wr.heap.size]? = some (.cells #[.int .i64 (xi : Int), .slice qa 128 qc] 103 (0, 0)) by rw [hwo]; exact heap_alloc_new wr _)
        have hbo : Below wr.heap.size wr wo := by rw [hwo]; exact (Below.refl _ _).alloc (Nat.le_refl _) _
        have HBO := hid hbo
        have hso : wr.heap.size < wo.heap.size := by rw [hwo]; simp
        have e0 : wo.cell? ⟨wr.heap.size, 0, none⟩ = some (.int .i64 (xi : Int)) := (cell_of_row _ _ _ _ _ _ HGO.out).trans rfl
        have e1 : wo.cell? ⟨wr.heap.size, 1, none⟩ = some (.slice qa 128 qc) := (cell_of_row _ _ _ _ _ _ HGO.out).trans rfl
        have HRB2 := hid ((hbo.block rb (by omega)).trans HRB.out)
        have e2 : wo.cell? ⟨rb, 0, none⟩ = some (.slice (some ⟨gd, 0, none⟩) s.n cd) := (cell_of_row _ _ _ _ _ _ HRB2.out).trans rfl
        have HDo := hid (HD.out.below hbo)
        obtain ⟨D, hD⟩ : ∃ D, D = tornUpto fates (cutOf cut) s.way xi (sect s.done xi) k := ⟨_, rfl⟩
        have HDD := hid hD
        have HDL := hid (show D.length = 128 by rw [hD]; exact tornUpto_length _ _ _ _ _ (cutOf_le cut) (sect_length _ _ _ HOK.out.2.2.2.1 hx1) (fun z hz => (HOK.out.2.2.2.2.1 z hz).2) k (by have := HWL.out; omega))
        have HRD := hid (show RowB wo base (DV.getD xi zv) D by rw [hD]; exact HDo.out.2 xi hx1)
        obtain ⟨dv, hdv⟩ : ∃ dv, dv = DV.getD xi zv := ⟨_, rfl⟩
        rw [← hdv] at HRD
        have e4 : wo.cell? ⟨gd, xi, none⟩ = some dv := by rw [hdv]; exact (HDo.out.cell xi hx1).1
        obtain ⟨da, dc, edv⟩ := rd_slice HRD.out.rd
        rw [HDL.out] at edv
        subst edv
        have HRDo := hid ((HRD.out.rd).drew.alloc (.cells #[] 5))
        have HE0 := hid (Own.empty wo.drew wo.heap.size (Nat.le_refl _))
        rw [← hwo]
        clear hwo hbo hD hdv
        have hrb : rb ≠ gd := p1
        have hwg : wr.heap.size ≠ gd := by omega
        have hrs : rb < wo.heap.size := by omega
        have hgs : gd < wo.heap.size := by omega
        go_region_held3 (fun w' => w'.cell? ⟨rb, 0, none⟩ = some (.slice (some ⟨gd, 0, none⟩) s.n cd) ∧ w'.cell? ⟨wr.heap.size, 0, none⟩ = some (.int .i64 (xi : Int)) ∧ w'.cell? ⟨gd, xi, none⟩ = some (.slice da 128 dc))
          (first
            | (refine ⟨?_, ?_, ?_⟩ <;> assumption)
            | (refine ⟨?_, ?_, ?_⟩ <;> first | exact (hB3.cell (p := ⟨rb, 0, none⟩) hrs).trans (by assumption) | exact (hB3.cell (p := ⟨wr.heap.size, 0, none⟩) hso).trans (by assumption) | exact (hB3.cell (p := ⟨gd, xi, none⟩) hgs).trans (by assumption) | fail)
            | (refine ⟨?_, ?_, ?_⟩ <;> first | exact (((Below.refl wo.heap.size wo.drew).alloc (Nat.le_refl _) _).cell (p := ⟨rb, 0, none⟩) hrs).trans (by assumption) | exact (((Below.refl wo.heap.size wo.drew).alloc (Nat.le_refl _) _).cell (p := ⟨wr.heap.size, 0, none⟩) hso).trans (by assumption) | exact (((Below.refl wo.heap.size wo.drew).alloc (Nat.le_refl _) _).cell (p := ⟨gd, xi, none⟩) hgs).trans (by assumption) | fail)
            | fail)
          (first | (refine appst (by rfl) (.tmp 34) (.tmp 42) rfl wo.heap.size (.slice (some ⟨wo.heap.size, 0, none⟩) 0 0) _ [] D D 128 rfl rfl HE0.out HRDo.out (by have := HDL.out; simp; omega) rfl (by have := HDL.out; simp; omega) (by simp) ?_; intro ad3 cp3 w3 ho3 hg3; have hB3 : Below wo.heap.size wo w3 := (((Below.refl wo.heap.size wo).drew).alloc (Nat.le_refl _) (.cells #[] 5)).grown hg3 (by simp) (fun k hk => by have : wo.heap.size = k := Option.some.inj hk; omega); have HO3 := hid ho3; clear ho3 hg3) | fail)
        obtain ⟨gw, cw, egw⟩ := own_head HO3.out (by have := HDL.out; omega)
        simp only [Value.slice.injEq] at egw
        obtain ⟨egw1, _, egw2⟩ := egw
        subst egw1 egw2
        have hgw : wo.heap.size ≤ gw := (HO3.out.lt gw rfl).1
        have hgw2 : gw < w3.heap.size := (HO3.out.lt gw rfl).2
        have HB3 := hid hB3
        have hcp := HO3.out.caps
        obtain ⟨hcp0, hcp1, hcp2⟩ := hcp
        obtain ⟨_, gq, cq, csq, egq, _, hgq⟩ := HRK.out
        have HGQ := hid hgq
        have hgq2 : gq < wr.heap.size := (Array.getElem?_eq_some_iff.1 hgq).1
        clear hB3 e4 hcp0 hgq
        go_wp2_with fail
        obtain ⟨wq, hwq⟩ : ∃ wq, wq = wr := ⟨_, rfl⟩
        subst hwq
        go_loopw [46] (fun j' wi => ∃ m : Nat, m ≤ 128 ∧ j' = .int .i64 m ∧ Own wi wo.heap.size (.slice (some ⟨gw, 0, none⟩) 128 cp3) (mixUpto f cut x.2 D m) ∧ gw < wi.heap.size ∧ Below wo.heap.size wo wi) (fun j' _ => 128 - (intOf j').toNat)
        case atStart => exact ⟨0, Nat.zero_le _, rfl, HO3.out, hgw2, HB3.out⟩
        case round =>
          obtain ⟨m, hm, rfl, hpo, hgi, hbi⟩ := hrel
          have HPO := hid hpo
          have HBI := hid hbi
          have hsi := hbi.size
          clear hpo hbi
          by_cases hm8 : m < 128
          · have HML := hid (mixUpto_length f cut x.2 D m)
            have k1 : wq.heap.size < wo.heap.size := hso
            have i1 := (HBI.out.cell (p := ⟨wq.heap.size, 1, none⟩) hso).trans e1
            have HRi := hid ((HRK.out.rd.below HBO.out).below HBI.out)
            obtain ⟨yz, hyz⟩ : ∃ yz : Int, yz = ((x.2.getD m 0).toNat : Int) := ⟨_, rfl⟩
            have HYZ := hid hyz
            obtain ⟨qb, qoff, qcap, eqv, hqc1, hqc2, _, hqs⟩ := HRi.out.pos (by have := HX2.out; omega)
            simp only [Value.slice.injEq] at eqv
            obtain ⟨eq1, _, eq2⟩ := eqv
            have i2 := hqs m (by have := HX2.out; omega)
            unfold bv at i2
            rw [← hyz] at i2
            subst eq1
            have i3 := HPO.out.cell m (by have := HML.out; have := HDL.out; omega)
            have i4 := HPO.out.frozen m
            have hqc3 : 128 ≤ qc := by have := HX2.out; omega
            have hqc4 : qc ≤ 9223372036854775807 := by unfold maxLen at hqc2; omega
            have hmi : (m : Int) < 128 := by omega
            clear hqs hyz hqc1 hqc2
            rcases (show f = 0 ∨ f = 1 ∨ f = 2 ∨ f = 3 by omega) with hfq | hfq | hfq | hfq
            · subst hfq
              have HMS := hid (show mixUpto 0 cut x.2 D (m + 1) = mixUpto 0 cut x.2 D m by rw [mixUpto_succ, if_neg (by simp [mixOn])])
              go_wp2_with fail
              go_roundw
              case rel => exact ⟨m + 1, by omega, by go_num, by rw [HMS.out]; exact HPO.out, hgi, HBI.out⟩
              case measure => simp [intOf]; omega
            · subst hfq
              have HMS := hid (show mixUpto 1 cut x.2 D (m + 1) = (mixUpto 1 cut x.2 D m).set m (x.2.getD m 0) by rw [mixUpto_succ, if_pos (by simp [mixOn])])
              have HST := hid (HPO.out.stored m (x.2.getD m 0) yz HYZ.out)
              go_wp2_with fail
              go_roundw
              case rel => exact ⟨m + 1, by omega, by go_num, by rw [HMS.out]; exact HST.out, by simp [World.setCell]; omega, HBI.out.trans (Below.setCell' _ hgw _ _)⟩
              case measure => simp [intOf]; omega
            · subst hfq
              by_cases hcut : (m : Int) < cut
              · have hlc : ((m : Int) < cut) = True := eq_true hcut
                have HMS := hid (show mixUpto 2 cut x.2 D (m + 1) = (mixUpto 2 cut x.2 D m).set m (x.2.getD m 0) by rw [mixUpto_succ, if_pos (by simp [mixOn, hcut])])
                clear hcut
                have HST := hid (HPO.out.stored m (x.2.getD m 0) yz HYZ.out)
                go_wp2_with fail
                go_roundw
                case rel => exact ⟨m + 1, by omega, by go_num, by rw [HMS.out]; exact HST.out, by simp [World.setCell]; omega, HBI.out.trans (Below.setCell' _ hgw _ _)⟩
                case measure => simp [intOf]; omega
              · have hlc : ((m : Int) < cut) = False := eq_false hcut
                have HMS := hid (show mixUpto 2 cut x.2 D (m + 1) = mixUpto 2 cut x.2 D m by rw [mixUpto_succ, if_neg (by simp [mixOn, hcut])])
                clear hcut
                go_wp2_with fail
                go_roundw
                case rel => exact ⟨m + 1, by omega, by go_num, by rw [HMS.out]; exact HPO.out, hgi, HBI.out⟩
                case measure => simp [intOf]; omega
            · subst hfq
              by_cases hcut : (m : Int) < cut
              · have hlc : ((m : Int) < cut) = True := eq_true hcut
                have HMS := hid (show mixUpto 3 cut x.2 D (m + 1) = mixUpto 3 cut x.2 D m by rw [mixUpto_succ, if_neg (by simp [mixOn, hcut])])
                clear hcut
                go_wp2_with fail
                go_roundw
                case rel => exact ⟨m + 1, by omega, by go_num, by rw [HMS.out]; exact HPO.out, hgi, HBI.out⟩
                case measure => simp [intOf]; omega
              · have hlc : ((m : Int) < cut) = False := eq_false hcut
                have HMS := hid (show mixUpto 3 cut x.2 D (m + 1) = (mixUpto 3 cut x.2 D m).set m (x.2.getD m 0) by rw [mixUpto_succ, if_pos (by simp [mixOn, hcut])])
                clear hcut
                have HST := hid (HPO.out.stored m (x.2.getD m 0) yz HYZ.out)
                go_wp2_with fail
                go_roundw
                case rel => exact ⟨m + 1, by omega, by go_num, by rw [HMS.out]; exact HST.out, by simp [World.setCell]; omega, HBI.out.trans (Below.setCell' _ hgw _ _)⟩
                case measure => simp [intOf]; omega
          · obtain rfl : m = 128 := by omega
            have HMX := hid (mix_torn fates cut k x.2 D HX2.out HDL.out)
            have HRBi := hid ((HBI.out.block rb hrs).trans HRB2.out)
            have i2 : wr.cell? ⟨rb, 0, none⟩ = some (.slice (some ⟨gd, 0, none⟩) s.n cd) := (cell_of_row _ _ _ _ _ _ HRBi.out).trans rfl
            have i0 := (HBI.out.cell (p := ⟨wq.heap.size, 0, none⟩) hso).trans e0
            have HDi := hid (HDo.out.below HBI.out)
            have i4 := (HDi.out.cell xi hx1).1
            have f4 := (HDi.out.cell xi hx1).2
            have hwg2 : gw ≠ gd := by omega
            have HPR := hid (RowB.of_own (base := base) HPO.out (by rw [mixUpto_length]; have := HDL.out; omega) (fun g hg => HPP.out g (by omega)))
            go_wp2_with fail
            go_region_held3 (fun w' => w'.cell? ⟨rb, 0, none⟩ = some (.slice (some ⟨gd, 0, none⟩) s.n cd) ∧ w'.cell? ⟨wq.heap.size, 0, none⟩ = some (.int .i64 (xi : Int)))
              (first
                | (refine ⟨?_, ?_⟩ <;> assumption)
                | (refine ⟨?_, ?_⟩ <;> first | exact ((keeps_set wr.drew gd xi _).cell (p := ⟨rb, 0, none⟩) (Nat.lt_of_lt_of_le hrs hsi) hrb).trans (by assumption) | exact ((keeps_set wr.drew gd xi _).cell (p := ⟨wq.heap.size, 0, none⟩) (Nat.lt_of_lt_of_le hso hsi) hwg).trans (by assumption) | fail)
                | fail)
              (fail)
            have HMX2 := hid ((congrArg (fun z => mixUpto z cut x.2 D 128) HFF.out).trans HMX.out)
            have HD4 := hid (DoneF.set (w := wr.drew) HDi.out xi hx1 (.slice (some ⟨gw, 0, none⟩) 128 cp3) _ HPR.out)
            have HK4 := hid (show Keeps (fun j => j = gd) w (wr.drew.setCell ⟨gd, xi, none⟩ (.slice (some ⟨gw, 0, none⟩) 128 cp3)) from (HKR.out.trans (((Keeps.of_below HBO.out (fun i h1 h2 => by omega) : Keeps (fun j => j = gd) wq wo).trans (Keeps.of_below HBI.out (fun i h1 h2 => by omega))).drew)).trans (keeps_set _ _ _ _))
            go_wp2_with fail
            go_roundw
            case rel =>
              refine ⟨k + 1, DV.set xi (.slice (some ⟨gw, 0, none⟩) 128 cp3), hlt, by go_num, HK4.out, HD4.out.to (fun j hj => ?_)⟩
              show (if j = xi then mixUpto f cut x.2 D 128 else tornUpto fates (cutOf cut) s.way j (sect s.done j) k) = _
              rw [HTK.out j]
              by_cases e : j = xi
              · rw [if_pos e, if_pos e, HMX2.out, HDD.out, e]
              · rw [if_neg e, if_neg e]
            case measure => simp [intOf]; omega
      · subst hf0
        have hkli : ((k : Int) < (fl : Int)) = False := eq_false (by omega)
        clear hkl
        go_wp2_with fail
        obtain ⟨wo, hwo⟩ : ∃ wo, wo = wr.alloc (.cells #[.int .i64 (xi : Int), .slice qa 128 qc] 103) := ⟨_, rfl⟩
        have HGO := hid (show wo.heap[wr.heap.size]? = some (.cells #[.int .i64 (xi : Int), .slice qa 128 qc] 103 (0, 0)) by rw [hwo]; exact heap_alloc_new wr _)
        have hbo : Below wr.heap.size wr wo := by rw [hwo]; exact (Below.refl _ _).alloc (Nat.le_refl _) _
        have HBO := hid hbo
        have hso : wr.heap.size < wo.heap.size := by rw [hwo]; simp
        have e0 : wo.cell? ⟨wr.heap.size, 0, none⟩ = some (.int .i64 (xi : Int)) := (cell_of_row _ _ _ _ _ _ HGO.out).trans rfl
        have e1 : wo.cell? ⟨wr.heap.size, 1, none⟩ = some (.slice qa 128 qc) := (cell_of_row _ _ _ _ _ _ HGO.out).trans rfl
        have HRB2 := hid ((hbo.block rb (by omega)).trans HRB.out)
        have e2 : wo.cell? ⟨rb, 0, none⟩ = some (.slice (some ⟨gd, 0, none⟩) s.n cd) := (cell_of_row _ _ _ _ _ _ HRB2.out).trans rfl
        have HDo := hid (HD.out.below hbo)
        obtain ⟨D, hD⟩ : ∃ D, D = tornUpto fates (cutOf cut) s.way xi (sect s.done xi) k := ⟨_, rfl⟩
        have HDD := hid hD
        have HDL := hid (show D.length = 128 by rw [hD]; exact tornUpto_length _ _ _ _ _ (cutOf_le cut) (sect_length _ _ _ HOK.out.2.2.2.1 hx1) (fun z hz => (HOK.out.2.2.2.2.1 z hz).2) k (by have := HWL.out; omega))
        have HRD := hid (show RowB wo base (DV.getD xi zv) D by rw [hD]; exact HDo.out.2 xi hx1)
        obtain ⟨dv, hdv⟩ : ∃ dv, dv = DV.getD xi zv := ⟨_, rfl⟩
        rw [← hdv] at HRD
        have e4 : wo.cell? ⟨gd, xi, none⟩ = some dv := by rw [hdv]; exact (HDo.out.cell xi hx1).1
        obtain ⟨da, dc, edv⟩ := rd_slice HRD.out.rd
        rw [HDL.out] at edv
        subst edv
        have HRDo := hid ((HRD.out.rd).drew.alloc (.cells #[] 5))
        have HE0 := hid (Own.empty wo.drew wo.heap.size (Nat.le_refl _))
        rw [← hwo]
        clear hwo hbo hD hdv
        have hrb : rb ≠ gd := p1
        have hwg : wr.heap.size ≠ gd := by omega
        have hrs : rb < wo.heap.size := by omega
        have hgs : gd < wo.heap.size := by omega
        go_region_held3 (fun w' => w'.cell? ⟨rb, 0, none⟩ = some (.slice (some ⟨gd, 0, none⟩) s.n cd) ∧ w'.cell? ⟨wr.heap.size, 0, none⟩ = some (.int .i64 (xi : Int)) ∧ w'.cell? ⟨gd, xi, none⟩ = some (.slice da 128 dc))
          (first
            | (refine ⟨?_, ?_, ?_⟩ <;> assumption)
            | (refine ⟨?_, ?_, ?_⟩ <;> first | exact (hB3.cell (p := ⟨rb, 0, none⟩) hrs).trans (by assumption) | exact (hB3.cell (p := ⟨wr.heap.size, 0, none⟩) hso).trans (by assumption) | exact (hB3.cell (p := ⟨gd, xi, none⟩) hgs).trans (by assumption) | fail)
            | (refine ⟨?_, ?_, ?_⟩ <;> first | exact (((Below.refl wo.heap.size wo.drew).alloc (Nat.le_refl _) _).cell (p := ⟨rb, 0, none⟩) hrs).trans (by assumption) | exact (((Below.refl wo.heap.size wo.drew).alloc (Nat.le_refl _) _).cell (p := ⟨wr.heap.size, 0, none⟩) hso).trans (by assumption) | exact (((Below.refl wo.heap.size wo.drew).alloc (Nat.le_refl _) _).cell (p := ⟨gd, xi, none⟩) hgs).trans (by assumption) | fail)
            | fail)
          (first | (refine appst (by rfl) (.tmp 34) (.tmp 42) rfl wo.heap.size (.slice (some ⟨wo.heap.size, 0, none⟩) 0 0) _ [] D D 128 rfl rfl HE0.out HRDo.out (by have := HDL.out; simp; omega) rfl (by have := HDL.out; simp; omega) (by simp) ?_; intro ad3 cp3 w3 ho3 hg3; have hB3 : Below wo.heap.size wo w3 := (((Below.refl wo.heap.size wo).drew).alloc (Nat.le_refl _) (.cells #[] 5)).grown hg3 (by simp) (fun k hk => by have : wo.heap.size = k := Option.some.inj hk; omega); have HO3 := hid ho3; clear ho3 hg3) | fail)
        obtain ⟨gw, cw, egw⟩ := own_head HO3.out (by have := HDL.out; omega)
        simp only [Value.slice.injEq] at egw
        obtain ⟨egw1, _, egw2⟩ := egw
        subst egw1 egw2
        have hgw : wo.heap.size ≤ gw := (HO3.out.lt gw rfl).1
        have hgw2 : gw < w3.heap.size := (HO3.out.lt gw rfl).2
        have HB3 := hid hB3
        have hcp := HO3.out.caps
        obtain ⟨hcp0, hcp1, hcp2⟩ := hcp
        obtain ⟨_, gq, cq, csq, egq, _, hgq⟩ := HRK.out
        have HGQ := hid hgq
        have hgq2 : gq < wr.heap.size := (Array.getElem?_eq_some_iff.1 hgq).1
        clear hB3 e4 hcp0 hgq
        go_wp2_with fail
        obtain ⟨wq, hwq⟩ : ∃ wq, wq = wr := ⟨_, rfl⟩
        subst hwq
        go_loopw [46] (fun j' wi => ∃ m : Nat, m ≤ 128 ∧ j' = .int .i64 m ∧ Own wi wo.heap.size (.slice (some ⟨gw, 0, none⟩) 128 cp3) (mixUpto 0 cut x.2 D m) ∧ gw < wi.heap.size ∧ Below wo.heap.size wo wi) (fun j' _ => 128 - (intOf j').toNat)
        case atStart => exact ⟨0, Nat.zero_le _, rfl, HO3.out, hgw2, HB3.out⟩
        case round =>
          obtain ⟨m, hm, rfl, hpo, hgi, hbi⟩ := hrel
          have HPO := hid hpo
          have HBI := hid hbi
          have hsi := hbi.size
          clear hpo hbi
          by_cases hm8 : m < 128
          · have HML := hid (mixUpto_length 0 cut x.2 D m)
            have k1 : wq.heap.size < wo.heap.size := hso
            have i1 := (HBI.out.cell (p := ⟨wq.heap.size, 1, none⟩) hso).trans e1
            have HRi := hid ((HRK.out.rd.below HBO.out).below HBI.out)
            obtain ⟨yz, hyz⟩ : ∃ yz : Int, yz = ((x.2.getD m 0).toNat : Int) := ⟨_, rfl⟩
            have HYZ := hid hyz
            obtain ⟨qb, qoff, qcap, eqv, hqc1, hqc2, _, hqs⟩ := HRi.out.pos (by have := HX2.out; omega)
            simp only [Value.slice.injEq] at eqv
            obtain ⟨eq1, _, eq2⟩ := eqv
            have i2 := hqs m (by have := HX2.out; omega)
            unfold bv at i2
            rw [← hyz] at i2
            subst eq1
            have i3 := HPO.out.cell m (by have := HML.out; have := HDL.out; omega)
            have i4 := HPO.out.frozen m
            have hqc3 : 128 ≤ qc := by have := HX2.out; omega
            have hqc4 : qc ≤ 9223372036854775807 := by unfold maxLen at hqc2; omega
            have hmi : (m : Int) < 128 := by omega
            clear hqs hyz hqc1 hqc2
            have HMS := hid (show mixUpto 0 cut x.2 D (m + 1) = mixUpto 0 cut x.2 D m by rw [mixUpto_succ, if_neg (by simp [mixOn])])
            go_wp2_with fail
            go_roundw
            case rel => exact ⟨m + 1, by omega, by go_num, by rw [HMS.out]; exact HPO.out, hgi, HBI.out⟩
            case measure => simp [intOf]; omega
          · obtain rfl : m = 128 := by omega
            have HMX := hid (mix_torn fates cut k x.2 D HX2.out HDL.out)
            have HRBi := hid ((HBI.out.block rb hrs).trans HRB2.out)
            have i2 : wr.cell? ⟨rb, 0, none⟩ = some (.slice (some ⟨gd, 0, none⟩) s.n cd) := (cell_of_row _ _ _ _ _ _ HRBi.out).trans rfl
            have i0 := (HBI.out.cell (p := ⟨wq.heap.size, 0, none⟩) hso).trans e0
            have HDi := hid (HDo.out.below HBI.out)
            have i4 := (HDi.out.cell xi hx1).1
            have f4 := (HDi.out.cell xi hx1).2
            have hwg2 : gw ≠ gd := by omega
            have HPR := hid (RowB.of_own (base := base) HPO.out (by rw [mixUpto_length]; have := HDL.out; omega) (fun g hg => HPP.out g (by omega)))
            go_wp2_with fail
            go_region_held3 (fun w' => w'.cell? ⟨rb, 0, none⟩ = some (.slice (some ⟨gd, 0, none⟩) s.n cd) ∧ w'.cell? ⟨wq.heap.size, 0, none⟩ = some (.int .i64 (xi : Int)))
              (first
                | (refine ⟨?_, ?_⟩ <;> assumption)
                | (refine ⟨?_, ?_⟩ <;> first | exact ((keeps_set wr.drew gd xi _).cell (p := ⟨rb, 0, none⟩) (Nat.lt_of_lt_of_le hrs hsi) hrb).trans (by assumption) | exact ((keeps_set wr.drew gd xi _).cell (p := ⟨wq.heap.size, 0, none⟩) (Nat.lt_of_lt_of_le hso hsi) hwg).trans (by assumption) | fail)
                | fail)
              (fail)
            have HMX2 := hid ((congrArg (fun z => mixUpto z cut x.2 D 128) HFF.out).trans HMX.out)
            have HD4 := hid (DoneF.set (w := wr.drew) HDi.out xi hx1 (.slice (some ⟨gw, 0, none⟩) 128 cp3) _ HPR.out)
            have HK4 := hid (show Keeps (fun j => j = gd) w (wr.drew.setCell ⟨gd, xi, none⟩ (.slice (some ⟨gw, 0, none⟩) 128 cp3)) from (HKR.out.trans (((Keeps.of_below HBO.out (fun i h1 h2 => by omega) : Keeps (fun j => j = gd) wq wo).trans (Keeps.of_below HBI.out (fun i h1 h2 => by omega))).drew)).trans (keeps_set _ _ _ _))
            go_wp2_with fail
            go_roundw
            case rel =>
              refine ⟨k + 1, DV.set xi (.slice (some ⟨gw, 0, none⟩) 128 cp3), hlt, by go_num, HK4.out, HD4.out.to (fun j hj => ?_)⟩
              show (if j = xi then mixUpto 0 cut x.2 D 128 else tornUpto fates (cutOf cut) s.way j (sect s.done j) k) = _
              rw [HTK.out j]
              by_cases e : j = xi
              · rw [if_pos e, if_pos e, HMX2.out, HDD.out, e]
              · rw [if_neg e, if_neg e]
            case measure => simp [intOf]; omega
    · obtain rfl : k = wn := by omega
      have HWK := hid (show k = s.way.length from HWL.out)
      have f2 : ∀ q, wr.frozen? ⟨rb, q, none⟩ = false := fun q => frozen_of_row _ _ _ _ _ HRB.out
      have f22 := f2 1
      have f23 := f2 2
      have f24 := f2 3
      have k2 : wr.cell? ⟨rb, 1, none⟩ = some (.slice wa k wc) := (cell_of_row _ _ _ _ _ _ HRB.out).trans rfl
      have k3 : wr.cell? ⟨rb, 2, none⟩ = some (.bool s.off) := (cell_of_row _ _ _ _ _ _ HRB.out).trans rfl
      have k4 : wr.cell? ⟨rb, 3, none⟩ = some (.int .i64 (s.armed : Int)) := (cell_of_row _ _ _ _ _ _ HRB.out).trans rfl
      clear f2 d0 d1 d2 d3 d4
      go_wp2
      go_ret
      obtain ⟨o1, o2, o3, o4, o5, o6, o7⟩ := HOK.out
      have hk2 : Keeps (fun q => q = rb) wr (((wr.setCell ⟨rb, 1, none⟩ (.slice none 0 0)).setCell ⟨rb, 2, none⟩ (.bool false)).setCell ⟨rb, 3, none⟩ (.int .i64 0)) := ((keeps_set _ _ _ _).trans (keeps_set _ _ _ _)).trans (keeps_set _ _ _ _)
      have hgt : ∀ q cs, base.P q → wr.heap[q]? = some (.cells cs 5 (0, 0)) → ¬ q = rb := fun q cs _ hq e => by
        subst e; rw [HRB.out] at hq; simp only [Option.some.injEq, Obj.cells.injEq] at hq; exact absurd hq.2.1 (by decide)
      have hn0 : ∀ ww : World, WayAt ww base (.slice none 0 0) [] [] := fun ww => ⟨World.ownsRow_nil _ _ _ _, rfl, fun i hi => absurd hi (by simp)⟩
      have hcl := crashUpto_length fates (cutOf cut) s.way s.done s.n (cutOf_le cut) o4 o5 s.way.length (Nat.le_refl _)
      refine ⟨rfl, ⟨(heap_setCell_same _ _ _ _ _ _ (heap_setCell_same _ _ _ _ _ _ (heap_setCell_same _ _ _ _ _ _ HRB.out))).trans (by simp [Sl.crash]), ⟨DV, ?_⟩, ⟨[], hn0 _⟩, H.out.2.2.2.1, ?_⟩, ?_⟩
      · have := (HD.out.to (f' := fun j => sect (s.crash fates cut).done j) (fun j hj => by rw [(crash_sect s HOK.out fates cut j).1, HWK.out])).keeps hk2 (fun e => p1 e.symm) hgt
        exact this
      · exact ⟨o1, o2, doneAll_length _ _ hcl _ _ o3 (fun x hx => (o5 x hx).1), hcl, (fun x hx => by cases hx), by simp [Sl.crash], by simp [Sl.crash]⟩
      · exact (HKR.out.mono (fun _ _ e => .inr e)).trans' hk2 (fun _ _ e => .inl e)
end Go.Proofs.Ytbagpckiegpalaa

namespace Go.Proofs.Ytbagpckiegpalaa
open Go.RowKit

theorem infoBT : (Try.prog.info? 32).map (fun i => (i.zero, i.size, i.bytes)) = some (some (.slice none 0 0), 1, 24) := by kernel_rfl

theorem run_appb (w : World) (ty : TypeId) (base : Nat) (v : Value) (xs : List Value) (a : Addr) (c : Nat) (y : Value) (hown : w.ownsRow base 32 1 v xs.length xs) (hc : w.cell? (a.add 0) = some y) (hone : y.oneCell' = true)
    (hlen : xs.length ≤ 4000000) (hbase : base ≤ w.heap.size) :
    ∃ v' w', (Builtin.append_ #[79, 79] ty #[v, .slice (some a) 1 c]).run Try.prog w = .ok v' w' ∧ w'.ownsRow base 32 1 v' (xs ++ [y]).length (xs ++ [y]) ∧ w.grownBy w' v.ownBlock := by
  obtain ⟨i, hi, hz0, hz1, hz2⟩ := info_parts infoBT
  obtain ⟨v', w', hr, r1, r2, _⟩ := run_append_own (P := Try.prog) w base 79 ty 32 i (.slice none 0 0) 1 24 Try.underlying79 hi hz0 hz1 hz2 rfl (by decide) v xs.length _ hown a 1 c [y] rfl (fun j u hj => by
    have hj0 : j = 0 := by
      rcases Nat.lt_or_ge j 1 with h | h
      · omega
      · rw [List.getElem?_eq_none (by simpa using h)] at hj; cases hj
    subst hj0
    simp at hj
    rw [hc, hj]) (fun u hu => by rw [List.mem_singleton.1 hu]; exact hone) (by unfold maxLen; omega) (by omega) hbase
  exact ⟨v', w', hr, by rw [List.length_append]; exact r1, r2⟩

theorem appbst {w : World} {ops : Array Oper} {o : Oper} {a : Act} {K : Act → World → Prop} {Q : Exit → Act → World → Prop} {E : Prop} (hw : Region.wanted o (yielded ops a.tmps) = true) (s x : Operand)
    (ho : o.op = .call { callee := .builtin .append, args := #[s, x], argTypes := #[79, 79] })
    (base : Nat) (v : Value) (xs : List Value) (ad : Addr) (c : Nat) (y : Value) (hs : a.eval s = v) (hx : a.eval x = .slice (some ad) 1 c) (hown : w.ownsRow base 32 1 v xs.length xs) (hc : w.cell? (ad.add 0) = some y) (hone : y.oneCell' = true)
    (hlen : xs.length ≤ 4000000) (hbase : base ≤ w.heap.size)
    (h : ∀ v' w', w'.ownsRow base 32 1 v' (xs ++ [y]).length (xs ++ [y]) → w.grownBy w' v.ownBlock → K (a.put o.dst v') w') : if Region.wanted o (yielded ops a.tmps) = true then Oper.wp Try.prog o a w K Q else E := by
  rw [if_pos hw]
  obtain ⟨v', w', hrun, h1, h2⟩ := run_appb w o.type base v xs ad c y hown hc hone hlen hbase
  unfold Oper.wp
  simp [execOp, ho, resolve, invoke, builtin, hs, hx, hrun, Result.andThen]
  exact h v' w' h1 h2

theorem Below.setCell'' {B : Nat} {w : World} (g : Nat) (hg : B ≤ g) (j : Nat) (v : Value) : Below B w (w.setCell ⟨g, j, none⟩ v) :=
  ⟨rfl, rfl, rfl, by simp [World.setCell], fun k hk => Below.heap_setCell _ _ _ _ (by show k ≠ g; omega)⟩

theorem owns_sl {w : World} {base : Nat} {e : TypeId} {size : Nat} {v : Value} {n : Nat} {xs : List Value} (h : w.ownsRow base e size v n xs) : ∃ a m c, v = .slice a m c := owns_slice5 h

theorem refnew_no (n : Int) (w : World) (h : n < 1 ∨ 4096 < n) :
    Calls Try.prog 11 #[.int .i64 n] w fun e w' => e = .returned (.tuple #[.pointer none, .int .i64 1]) ∧ w = w' := by
  by_cases h1 : n < 1
  · go_enter Try.func11, Try.ntmps11
    go_wp2
    go_ret2
    exact ⟨rfl, rfl⟩
  · have h2 : 4096 < n := by omega
    have h3 : 1 ≤ n := by omega
    go_enter Try.func11, Try.ntmps11
    go_wp2
    go_ret2
    exact ⟨rfl, rfl⟩

theorem mk128 (w : World) : (Instr.makeSlice 32 (.int .i64 128) (.int .i64 128)).run Try.prog w = .ok (.slice (some ⟨w.heap.size, 0, none⟩) 128 128) (w.alloc (.cells ((zeros 128).map bv).toArray 5)) := by
  obtain ⟨i, hi, hz0, hz1, hz2⟩ := info_parts Try.infoU8
  have := run_makeSlice (P := Try.prog) (w := w) 32 5 i _ Try.underlying32 hi hz0 .i64 .i64 128 128 (by omega) (Int.le_refl _) (by rw [hz1]; simp) (by rw [hz2]; omega) (by omega)
  rw [this, hz1]
  have e : madeCells (Value.int .u8 0).cells (128 * 1) = ((zeros 128).map bv).toArray := by
    apply Array.ext'
    show (madeCells #[Value.int .u8 0] 128).toList = _
    rw [toList_madeCells_one]
    unfold zeros
    rw [List.map_replicate]
    rfl
  exact congrArg (fun z => Result.ok (Value.slice (some ⟨w.heap.size, 0, none⟩) 128 128) (w.alloc (.cells z 5))) e

theorem sect_zeros (n i : Nat) (hi : i < n) : sect (List.replicate (n * 128) 0) i = zeros 128 := by
  unfold sect zeros
  rw [List.drop_replicate, List.take_replicate]
  congr 1
  omega

set_option maxRecDepth 100000 in
set_option maxHeartbeats 4000000 in
theorem refnew_yes (n : Nat) (w : World) (h1 : 1 ≤ n) (h2 : n ≤ 4096) :
    Calls Try.prog 11 #[.int .i64 (n : Int)] w fun e w' => ∃ rb gd cd, e = .returned (.tuple #[.pointer (some ⟨rb, 0, none⟩), .int .i64 0]) ∧ RefAt w' ⟨w.heap.size, fun g => w.heap.size ≤ g⟩ rb gd cd (.slice none 0 0) (Sl.new n) ∧ Below w.heap.size w w' := by
  have d1 : ¬ (n : Int) < 1 := by omega
  have d2 : ¬ 4096 < (n : Int) := by omega
  go_enter Try.func11, Try.ntmps11
  go_wp2_with fail
  go_loopw [14] (fun i' wr => ∃ (k : Nat) (dv : Value) (DV : List Value), k ≤ n ∧ i' = .int .i64 k ∧ wr.heap[w.heap.size]? = some (.cells #[dv, .slice none 0 0, .bool false, .int .i64 0, .int .i64 0] 89 (0, 0)) ∧ wr.ownsRow w.heap.size 32 1 dv DV.length DV ∧ DV.length = k ∧ (∀ i, i < k → RowB wr ⟨w.heap.size, fun g => w.heap.size ≤ g⟩ (DV.getD i zv) (zeros 128)) ∧ w.heap.size < wr.heap.size ∧ Below w.heap.size w wr) (fun i' _ => n - (intOf i').toNat)
  case atStart => exact ⟨0, _, [], by omega, rfl, heap_alloc_new w _, World.ownsRow_nil _ _ _ _, rfl, (fun i hi => absurd hi (by omega)), by simp, (Below.refl _ _).alloc (Nat.le_refl _) _⟩
  case round =>
    obtain ⟨k, dv, DV, hk, rfl, hr, hown, hl, hrows, hsw, hB⟩ := hrel
    have HR := hid hr
    have HO := hid hown
    have HRW := hid hrows
    have HB := hid hB
    have HL := hid hl
    obtain ⟨ja, jn, jc, ejv⟩ := owns_sl hown
    subst ejv
    clear hr hown hrows hB hl
    by_cases hlt : k < n
    · have hmk := mk128 wr.drew
      have e0 : wr.cell? ⟨w.heap.size, 0, none⟩ = some (.slice ja jn jc) := (cell_of_row _ _ _ _ _ _ HR.out).trans rfl
      obtain ⟨Z, hZ⟩ : ∃ Z, Z = ((zeros 128).map bv).toArray := ⟨_, rfl⟩
      rw [← hZ] at hmk
      have HZ := hid hZ
      have bA : Below wr.heap.size wr (wr.drew.alloc (.cells Z 5)) := ((Below.refl _ wr).drew).alloc (Nat.le_refl _) _
      have bB : Below wr.heap.size wr ((wr.drew.alloc (.cells Z 5)).alloc (.cells #[.slice (some ⟨wr.heap.size, 0, none⟩) 128 128] 32)) := bA.alloc bA.size _
      have eA : (wr.drew.alloc (.cells Z 5)).cell? ⟨w.heap.size, 0, none⟩ = some (.slice ja jn jc) := (bA.cell (p := ⟨w.heap.size, 0, none⟩) hsw).trans e0
      have eB : ((wr.drew.alloc (.cells Z 5)).alloc (.cells #[.slice (some ⟨wr.heap.size, 0, none⟩) 128 128] 32)).cell? ⟨w.heap.size, 0, none⟩ = some (.slice ja jn jc) := (bB.cell (p := ⟨w.heap.size, 0, none⟩) hsw).trans e0
      have BA := hid bA
      have BB := hid bB
      have HOB := hid (owns_to HO.out (fun q hq => bB.block q (World.ownsRow.lt HO.out q hq).2))
      have HNR := hid (show (Value.slice ja jn jc).ownBlock ≠ some w.heap.size from fun e => by
        obtain ⟨cur, hc⟩ := owns_type HO.out _ e
        rw [HR.out] at hc; simp only [Option.some.injEq, Obj.cells.injEq] at hc; exact absurd hc.2.1 (by decide))
      have hszA : (wr.drew.alloc (.cells Z 5)).heap.size = wr.heap.size + 1 := by show (wr.alloc _).heap.size = _; simp
      have HCB := hid (show ((wr.drew.alloc (.cells Z 5)).alloc (.cells #[.slice (some ⟨wr.heap.size, 0, none⟩) 128 128] 32)).cell? ((⟨wr.heap.size + 1, 0, none⟩ : Addr).add 0) = some (.slice (some ⟨wr.heap.size, 0, none⟩) 128 128) by
        have := heap_alloc_new (wr.drew.alloc (.cells Z 5)) (.cells #[.slice (some ⟨wr.heap.size, 0, none⟩) 128 128] 32)
        rw [hszA] at this
        rw [Addr.add_lit, cell_of_row _ _ _ _ _ _ this]
        rfl)
      have hlm : DV.length ≤ 4000000 := by have := HL.out; omega
      have hbm : w.heap.size ≤ ((wr.drew.alloc (.cells Z 5)).alloc (.cells #[.slice (some ⟨wr.heap.size, 0, none⟩) 128 128] 32)).heap.size := by have := bB.size; omega
      have HBM := hid hbm
      clear hZ bA bB hszA hbm
      go_wp2_with fail
      go_region_law (refine appbst (by rfl) (.tmp 20) (.tmp 22) rfl w.heap.size (.slice ja jn jc) DV ⟨wr.heap.size + 1, 0, none⟩ 1 (.slice (some ⟨wr.heap.size, 0, none⟩) 128 128) rfl rfl HOB.out HCB.out rfl hlm HBM.out ?_; intro v5 w5 ho5 hg5; obtain ⟨va, vn, vc, ev⟩ := owns_sl ho5; subst ev; have HO5 := hid ho5; have HG5 := hid hg5; have hrb5 := (hg5.block w.heap.size (Nat.lt_of_lt_of_le hsw BB.out.size) (fun e => HNR.out e.symm)).trans ((BB.out.block w.heap.size hsw).trans HR.out); have HRB5 := hid hrb5; have e5 : w5.cell? ⟨w.heap.size, 0, none⟩ = some (.slice ja jn jc) := (cell_of_row _ _ _ _ _ _ hrb5).trans rfl; have f5 : w5.frozen? ⟨w.heap.size, 0, none⟩ = false := frozen_of_row _ _ _ _ _ hrb5; clear ho5 hg5 hrb5)
      all_goals
        have hk5 := keeps_set w5 w.heap.size 0 (.slice va vn vc)
        have hgr : ∀ g cs, w.heap.size ≤ g → w5.heap[g]? = some (.cells cs 5 (0, 0)) → ¬ g = w.heap.size := fun g cs _ hg e => by
          subst e; rw [HRB5.out] at hg; simp only [Option.some.injEq, Obj.cells.injEq] at hg; exact absurd hg.2.1 (by decide)
        have hg2 : ∀ g cs, w.heap.size ≤ g → ((wr.drew.alloc (.cells Z 5)).alloc (.cells #[.slice (some ⟨wr.heap.size, 0, none⟩) 128 128] 32)).heap[g]? = some (.cells cs 5 (0, 0)) → ¬ (Value.slice ja jn jc).ownBlock = some g := fun g cs _ hg e => by
          obtain ⟨cur, hc⟩ := owns_type HOB.out _ e
          rw [hg] at hc; simp only [Option.some.injEq, Obj.cells.injEq] at hc; exact absurd hc.2.1 (by decide)
        have hnew0 : RowB (wr.drew.alloc (.cells Z 5)) ⟨w.heap.size, fun g => w.heap.size ≤ g⟩ (.slice (some ⟨wr.heap.size, 0, none⟩) 128 128) (zeros 128) := by
          rw [HZ.out]
          exact ⟨rd_row (zeros_length 128).symm (heap_alloc_new wr.drew _) (by rw [zeros_length]; unfold maxLen; omega), wr.heap.size, 128, _, by rw [zeros_length], by omega, heap_alloc_new wr.drew _⟩
        have hnew := ((hnew0.below ((Below.refl _ (wr.drew.alloc (.cells Z 5))).alloc (Nat.le_refl _) (.cells #[.slice (some ⟨wr.heap.size, 0, none⟩) 128 128] 32))).keeps (Keeps.of_grown HG5.out) hg2).keeps hk5 hgr
        have hb5 : Below w.heap.size w w5 := (HB.out.trans (BB.out.mono (by omega))).grown HG5.out HBM.out (fun q hq => (World.ownsRow.lt HO.out q hq).1)
        have hown5 := owns_to HO5.out (w' := w5.setCell ⟨w.heap.size, 0, none⟩ (.slice va vn vc)) (fun q hq => hk5.block q (World.ownsRow.lt HO5.out q hq).2 (fun e => by
          obtain ⟨cur, hc⟩ := owns_type HO5.out _ hq
          subst e; rw [HRB5.out] at hc; simp only [Option.some.injEq, Obj.cells.injEq] at hc; exact absurd hc.2.1 (by decide)))
        have hrow5 : ∀ i, i < k + 1 → RowB (w5.setCell ⟨w.heap.size, 0, none⟩ (.slice va vn vc)) ⟨w.heap.size, fun g => w.heap.size ≤ g⟩ ((DV ++ [Value.slice (some ⟨wr.heap.size, 0, none⟩) 128 128]).getD i zv) (zeros 128) := fun i hi => by
          by_cases h3 : i < k
          · rw [getD_left _ _ _ _ (by have := HL.out; omega)]
            exact (((HRW.out i h3).below BB.out).keeps (Keeps.of_grown HG5.out) hg2).keeps hk5 hgr
          · obtain rfl : i = DV.length := by have := HL.out; omega
            rw [getD_last]
            exact hnew
        have hsz5 : w.heap.size < (w5.setCell ⟨w.heap.size, 0, none⟩ (.slice va vn vc)).heap.size := Nat.lt_of_lt_of_le (Nat.lt_of_lt_of_le (Nat.lt_of_lt_of_le hsw BB.out.size) HG5.out.size) hk5.size
        have hhead := (heap_setCell_same w5 w.heap.size 0 _ _ (.slice va vn vc) HRB5.out)
        have HH := hid hhead
        have HO6 := hid hown5
        have HR6 := hid hrow5
        have HB6 := hid (hb5.trans (Below.setCell'' (w := w5) w.heap.size (Nat.le_refl _) 0 (.slice va vn vc)))
        have hl6 : (DV ++ [Value.slice (some ⟨wr.heap.size, 0, none⟩) 128 128]).length = k + 1 := by have := HL.out; simp; omega
        have HL6 := hid hl6
        clear hhead hown5 hrow5 hb5 hnew hnew0 hg2 hgr hk5 hl6
        go_wp2
        go_roundw
        case rel => exact ⟨k + 1, .slice va vn vc, _, by omega, by go_num, HH.out.trans (by simp), HO6.out, HL6.out, HR6.out, hsz5, HB6.out⟩
        case measure => simp [intOf]; omega
    · obtain rfl : k = n := by omega
      have hlen := HO.out
      rw [HL.out] at hlen
      obtain ⟨g, cap, ev⟩ : ∃ g c, Value.slice ja jn jc = .slice (some ⟨g, 0, none⟩) k c := by
        rcases hlen.2 with ⟨_, hz⟩ | ⟨g, cap, cur, e, _⟩
        · omega
        · exact ⟨g, cap, e⟩
      simp only [Value.slice.injEq] at ev
      obtain ⟨e1, e2, e3⟩ := ev
      subst e1 e2 e3
      go_wp2
      go_ret2
      refine ⟨_, g, jc, rfl, ⟨HR.out, ⟨DV, ⟨hlen, fun i hi => ?_⟩⟩, ⟨[], World.ownsRow_nil _ _ _ _, rfl, fun i hi => absurd hi (by simp [Sl.new])⟩, Nat.le_refl _, Sl.new_ok jn h1 h2⟩, HB.out⟩
      have : sect (Sl.new jn).done i = zeros 128 := sect_zeros jn i hi
      rw [this]
      exact HRW.out i hi

end Go.Proofs.Ytbagpckiegpalaa

namespace Go.Proofs.Ytbagpckiegpalaa
open Go.RowKit

theorem xor1 (x : UInt8) : Go.bits .xor .u8 (x.toNat : Int) 1 = ((x ^^^ 1).toNat : Int) := by
  have := u8_xor_nat x.toNat 1 x.toNat_lt (by omega)
  rw [show (1 : Int) = ((1 : Nat) : Int) from rfl, this]
  rfl

theorem rd_old {w : World} {v : Value} {l : List UInt8} (h : Rd w v l) (hl : l ≠ []) (k : Nat) (hk : v.ownBlock = some k) : k < w.heap.size := by
  obtain ⟨b, off, cap, rfl, _, _, hb, _⟩ := h.pos (List.length_pos_iff.2 hl)
  simp [Value.ownBlock] at hk
  omega

theorem read_got (s : Sl) (hf : s.fits) (i : Int) : s.read i = s.got i := by
  unfold Sl.read Sl.got
  by_cases h1 : s.has i = false
  · rw [if_pos h1, if_pos h1]
  · rw [if_neg h1, if_neg h1]
    by_cases h2 : s.off = true
    · rw [if_pos h2, if_pos h2]
    · rw [if_neg h2, if_neg h2]
      have hb : 0 ≤ i ∧ i < (s.n : Int) := by simpa [Sl.has] using h1
      rw [hf i.toNat (by omega)]

theorem RefAt.keepsSlab {w w' : World} {base : Nat} {base2 : Bs} {b bn bd rb gd cd : Nat} {wv rv : Value} {s s2 : Sl} (h : SlabAt w base b bn bd wv s) (hr : RefAt w base2 rb gd cd rv s2) (hk : Keeps (SlabS b bn bd wv) w w') : RefAt w' base2 rb gd cd rv s2 := by
  obtain ⟨a, ⟨DV, hd⟩, ⟨PW, hp⟩, _⟩ := hr
  obtain ⟨cur, hg⟩ := owns_type hd.1 gd rfl
  refine RefAt.keeps (w := w) ⟨a, ⟨DV, hd⟩, ⟨PW, hp⟩, by assumption⟩ hk ?_ ?_ ?_ ?_
  · exact h.apart' a (by decide) (by decide) (by decide)
  · exact h.apart' hg (by decide) (by decide) (by decide)
  · intro k hk2
    obtain ⟨cur2, hc2⟩ := owns_type hp.1 k hk2
    exact h.apart' hc2 (by decide) (by decide) (by decide)
  · intro g cs _ hgs
    exact h.apart' hgs (by decide) (by decide) (by decide)

/-- A slab is kept by whatever writes blocks of other types alone. -/
theorem SlabAt.keepsOther {S : Nat → Prop} {w w' : World} {base b bn bd : Nat} {wv : Value} {s : Sl} (h : SlabAt w base b bn bd wv s) (hk : Keeps S w w') (hS : ∀ g cs t fr, S g → w.heap[g]? = some (.cells cs t fr) → t ≠ 86 ∧ t ≠ 98 ∧ t ≠ 100) : SlabAt w' base b bn bd wv s := by
  refine h.keeps hk (fun e => ?_) (fun e => ?_) (fun e => ?_) (fun k hk2 e => ?_)
  · exact (hS _ _ _ _ e h.1).1 rfl
  · exact (hS _ _ _ _ e h.2.1).2.1 rfl
  · exact (hS _ _ _ _ e h.2.2.1).2.1 rfl
  · obtain ⟨cur, hc⟩ := h.2.2.2.1.type k hk2
    exact (hS _ _ _ _ e hc).2.2 rfl

theorem SlabAt.keepsRef {w w' : World} {base : Nat} {base2 : Bs} {b bn bd rb gd cd : Nat} {wv rv : Value} {s s2 : Sl} (h : SlabAt w base b bn bd wv s) (hr : RefAt w base2 rb gd cd rv s2) (hk : Keeps (fun k => k = rb ∨ k = gd) w w') : SlabAt w' base b bn bd wv s := by
  obtain ⟨a, ⟨DV, hd⟩, _⟩ := hr
  obtain ⟨cur, hg⟩ := owns_type hd.1 gd rfl
  refine h.keepsOther hk (fun g cs t fr e hgs => ?_)
  rcases e with e | e
  · subst e
    rw [a] at hgs; simp only [Option.some.injEq, Obj.cells.injEq] at hgs
    obtain ⟨_, rfl, _⟩ := hgs
    decide
  · subst e
    rw [hg] at hgs; simp only [Option.some.injEq, Obj.cells.injEq] at hgs
    obtain ⟨_, rfl, _⟩ := hgs
    decide

/-- Bytes of the call's own are kept by both. -/
theorem Own.keepsSlab {w w' : World} {base base2 b bn bd : Nat} {wv v : Value} {s : Sl} {l : List UInt8} (h : SlabAt w base b bn bd wv s) (ho : Own w base2 v l) (hk : Keeps (SlabS b bn bd wv) w w') : Own w' base2 v l := by
  refine ho.keeps hk (fun k hk2 => ?_)
  obtain ⟨cur, hc⟩ := owns_type ho k hk2
  exact h.apart' hc (by decide) (by decide) (by decide)
theorem Own.keepsRef {w w' : World} {base : Bs} {base2 rb gd cd : Nat} {rv v : Value} {s2 : Sl} {l : List UInt8} (hr : RefAt w base rb gd cd rv s2) (ho : Own w base2 v l) (hk : Keeps (fun k => k = rb ∨ k = gd) w w') : Own w' base2 v l := by
  refine ho.keeps hk (fun k hk2 => ?_)
  obtain ⟨cur, hc⟩ := owns_type ho k hk2
  have := hr.apart.2.2.1 k cur hc
  rintro (e | e)
  · exact this.1 e
  · exact this.2.1 e

theorem RefAt.low {w : World} {base : Bs} {rb gd cd : Nat} {rv : Value} {s2 : Sl} (hr : RefAt w base rb gd cd rv s2) : base.n ≤ rb ∧ base.n ≤ gd ∧ base.n ≤ w.heap.size := by
  have := hr.apart
  have h2 := hr.2.2.2.1
  omega

theorem RefAt.keep {w w' : World} {base : Bs} {rb gd cd : Nat} {rv : Value} {s2 : Sl} (hr : RefAt w base rb gd cd rv s2) (hk : Keeps (fun k => k = rb ∨ k = gd) w w') : Below base.n w w' :=
  hk.below hr.low.2.2 (fun i e => by have := hr.low; rcases e with rfl | rfl <;> omega)

/-- Rows that were there lie where nothing newer lies. -/
theorem RefAt.avoid {w : World} {n rb gd cd : Nat} {rv v : Value} {s : Sl} (hr : RefAt w ⟨n, fun g => n ≤ g⟩ rb gd cd rv s) (hv : ∀ k, v.ownBlock = some k → w.heap.size ≤ k) : RefAt w ⟨n, fun g => n ≤ g ∧ v.ownBlock ≠ some g⟩ rb gd cd rv s := by
  have hrow : ∀ {u : Value} {m : List UInt8}, RowB w ⟨n, fun g => n ≤ g⟩ u m → RowB w ⟨n, fun g => n ≤ g ∧ v.ownBlock ≠ some g⟩ u m := by
    rintro u m ⟨h1, g, c, cs, rfl, hb, hg⟩
    exact ⟨h1, g, c, cs, rfl, ⟨hb, fun e => by have := hv g e; have := (Array.getElem?_eq_some_iff.1 hg).1; omega⟩, hg⟩
  obtain ⟨a, ⟨DV, hd⟩, ⟨PW, hp⟩, r⟩ := hr
  exact ⟨a, ⟨DV, hd.1, fun i hi => hrow (hd.2 i hi)⟩, ⟨PW, hp.1, hp.2.1, fun i hi => ⟨(hp.2.2 i hi).1, hrow (hp.2.2 i hi).2⟩⟩, r⟩

theorem RefAt.weak {w : World} {n rb gd cd : Nat} {P P' : Nat → Prop} {rv : Value} {s : Sl} (hr : RefAt w ⟨n, P⟩ rb gd cd rv s) (hv : ∀ g, P g → P' g) : RefAt w ⟨n, P'⟩ rb gd cd rv s := by
  have hrow : ∀ {u : Value} {m : List UInt8}, RowB w ⟨n, P⟩ u m → RowB w ⟨n, P'⟩ u m := by
    rintro u m ⟨h1, g, c, cs, rfl, hb, hg⟩
    exact ⟨h1, g, c, cs, rfl, hv g hb, hg⟩
  obtain ⟨a, ⟨DV, hd⟩, ⟨PW, hp⟩, r⟩ := hr
  exact ⟨a, ⟨DV, hd.1, fun i hi => hrow (hd.2 i hi)⟩, ⟨PW, hp.1, hp.2.1, fun i hi => ⟨(hp.2.2 i hi).1, hrow (hp.2.2 i hi).2⟩⟩, r⟩

/-- What writes v's own bytes alone keeps both slabs. -/
theorem RefAt.keepsOwn {w w' : World} {n rb gd cd b0 : Nat} {rv v : Value} {s : Sl} {l : List UInt8} (hr : RefAt w ⟨n, fun g => n ≤ g ∧ v.ownBlock ≠ some g⟩ rb gd cd rv s) (ho : Own w b0 v l) (hk : Keeps (fun j => v.ownBlock = some j) w w') : RefAt w' ⟨n, fun g => n ≤ g ∧ v.ownBlock ≠ some g⟩ rb gd cd rv s := by
  have ht := hr.apart.2.2.1
  refine hr.keeps hk (fun e => ?_) (fun e => ?_) (fun k hk2 e => ?_) (fun g cs hg _ e => hg.2 e)
  · obtain ⟨cur, hc⟩ := owns_type ho _ e
    exact (ht _ _ hc).1 rfl
  · obtain ⟨cur, hc⟩ := owns_type ho _ e
    exact (ht _ _ hc).2.1 rfl
  · obtain ⟨cur, hc⟩ := owns_type ho _ e
    exact (ht _ _ hc).2.2 hk2

theorem SlabAt.keepsOwn {w w' : World} {base b bn bd b0 : Nat} {wv v : Value} {s : Sl} {l : List UInt8} (h : SlabAt w base b bn bd wv s) (ho : Own w b0 v l) (hk : Keeps (fun j => v.ownBlock = some j) w w') : SlabAt w' base b bn bd wv s := by
  refine h.keepsOther hk (fun g cs t fr e hgs => ?_)
  obtain ⟨cur, hc⟩ := owns_type ho g e
  rw [hc] at hgs; simp only [Option.some.injEq, Obj.cells.injEq] at hgs
  obtain ⟨_, rfl, _⟩ := hgs
  decide

theorem RefAt.ne {w : World} {base : Bs} {rb gd cd : Nat} {rv : Value} {s : Sl} (hr : RefAt w base rb gd cd rv s) {g : Nat} {cs : Array Value} {t : TypeId} {fr : Nat × Nat} (hg : w.heap[g]? = some (.cells cs t fr)) (h1 : t ≠ 89) (h2 : t ≠ 32) : g ≠ rb ∧ g ≠ gd := by
  refine ⟨fun e => ?_, fun e => ?_⟩
  · subst e; have := hg.symm.trans hr.1; simp only [Option.some.injEq, Obj.cells.injEq] at this; exact h1 this.2.1
  · subst e
    obtain ⟨_, ⟨DV, hd⟩, _⟩ := hr
    obtain ⟨cur, hc⟩ := owns_type hd.1 g rfl
    have := hg.symm.trans hc; simp only [Option.some.injEq, Obj.cells.injEq] at this; exact h2 this.2.1

theorem RefAt.way_len {w : World} {base : Bs} {rb gd cd : Nat} {rv : Value} {s : Sl} (hr : RefAt w base rb gd cd rv s) : ∃ a c, rv = .slice a s.way.length c := by
  obtain ⟨_, _, ⟨PW, hp⟩, _⟩ := hr
  rcases hp.1.2 with ⟨rfl, hn⟩ | ⟨g, cap, cur, rfl, _⟩
  · exact ⟨none, 0, by rw [hn]⟩
  · exact ⟨_, _, rfl⟩

end Go.Proofs.Ytbagpckiegpalaa
