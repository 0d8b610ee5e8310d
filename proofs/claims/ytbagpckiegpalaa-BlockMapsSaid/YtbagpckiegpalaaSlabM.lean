/-
  Layer 5: the state of a slab, plain; where it lies; its small functions.
-/
import Derived.Test.YtbagpckiegpalaaKit
import Derived.Laws.AppendOwn
import Derived.Deep.MidRow
namespace Go.Proofs.Ytbagpckiegpalaa
open Go.RowKit

/-- Sectors as they are read and as they are done (byte by byte, 128 a sector), what is under way, the power. -/
structure Sl where
  n : Nat
  now : List UInt8
  done : List UInt8
  way : List (Nat × List UInt8)
  off : Bool
  armed : Nat
  steps : Nat

/-- Its sizes fit. -/
def Sl.ok (s : Sl) : Prop := 1 ≤ s.n ∧ s.n ≤ 4096 ∧ s.now.length = s.n * 128 ∧ s.done.length = s.n * 128 ∧ (∀ x ∈ s.way, x.1 < s.n ∧ x.2.length = 128) ∧ s.way.length ≤ 1000000 ∧ s.armed ≤ 9223372036854775807

/-- One step more. -/
def Sl.step (s : Sl) : Sl := { s with steps := s.steps + 1, armed := s.armed - 1, off := s.off || decide (s.armed = 1) }
def Sl.stepE (s : Sl) : Int := if s.armed = 1 then 13 else 0

/-- One that is under way, as cells. -/
def wcells (x : Nat × List UInt8) : List Value := Value.int .i64 (x.1 : Int) :: x.2.map bv

def OwnWay (w : World) (base : Nat) (v : Value) (l : List (Nat × List UInt8)) : Prop := w.ownsRow base 100 129 v l.length (l.flatMap wcells)

def SlabAt (w : World) (base b bn bd : Nat) (wv : Value) (s : Sl) : Prop :=
  w.heap[b]? = some (.cells #[.slice (some ⟨bn, 0, none⟩) s.n s.n, .slice (some ⟨bd, 0, none⟩) s.n s.n, wv, .bool s.off, .int .i64 (s.armed : Int), .int .i64 (s.steps : Int)] 86 (0, 0)) ∧
  w.heap[bn]? = some (.cells (s.now.map bv).toArray 98 (0, 0)) ∧ w.heap[bd]? = some (.cells (s.done.map bv).toArray 98 (0, 0)) ∧
  OwnWay w base wv s.way ∧ base ≤ b ∧ base ≤ bn ∧ base ≤ bd ∧ b ≠ bn ∧ b ≠ bd ∧ bn ≠ bd ∧ (∀ k, wv.ownBlock = some k → k ≠ b ∧ k ≠ bn ∧ k ≠ bd) ∧ s.ok

theorem OwnWay.to {w w' : World} {base : Nat} {v : Value} {l : List (Nat × List UInt8)} (h : OwnWay w base v l) (hc : ∀ k, v.ownBlock = some k → w'.heap[k]? = w.heap[k]?) : OwnWay w' base v l := by
  refine ⟨h.1, ?_⟩
  rcases h.2 with hn | ⟨g, cap, cur, rfl, hb, hgg, rest⟩
  · exact .inl hn
  · exact .inr ⟨g, cap, cur, rfl, hb, by rw [hc g rfl]; exact hgg, rest⟩
theorem OwnWay.lt {w : World} {base : Nat} {v : Value} {l : List (Nat × List UInt8)} (h : OwnWay w base v l) : ∀ k, v.ownBlock = some k → base ≤ k ∧ k < w.heap.size := World.ownsRow.lt h

theorem OwnWay.type {w : World} {base : Nat} {v : Value} {l : List (Nat × List UInt8)} (h : OwnWay w base v l) : ∀ k, v.ownBlock = some k → ∃ cur, w.heap[k]? = some (.cells cur 100 (0, 0)) := by
  intro k hk
  rcases h.2 with ⟨rfl, hn⟩ | ⟨g, cap, cur, rfl, hb, hgg, rest⟩
  · cases hk
  · have e : g = k := Option.some.inj hk
    subst e
    exact ⟨_, hgg⟩

theorem OwnWay.slice {w : World} {base : Nat} {v : Value} {l : List (Nat × List UInt8)} (h : OwnWay w base v l) : ∃ a c, v = .slice a l.length c ∧ l.length ≤ 9223372036854775807 := by
  rcases h.2 with ⟨rfl, hn⟩ | ⟨g, cap, cur, rfl, hb, hgg, h1, h2, h3⟩
  · exact ⟨none, 0, by rw [hn], by omega⟩
  · exact ⟨_, _, rfl, by unfold maxLen at h2; omega⟩

/-- What keeps these blocks keeps the slab. -/
theorem SlabAt.keeps {S : Nat → Prop} {w w' : World} {base b bn bd : Nat} {wv : Value} {s : Sl} (h : SlabAt w base b bn bd wv s) (hk : Keeps S w w') (h1 : ¬ S b) (h2 : ¬ S bn) (h3 : ¬ S bd) (h4 : ∀ k, wv.ownBlock = some k → ¬ S k) :
    SlabAt w' base b bn bd wv s := by
  obtain ⟨a1, a2, a3, a4, rest⟩ := h
  have lt : ∀ {g : Nat} {o : Obj}, w.heap[g]? = some o → g < w.heap.size := fun e => (Array.getElem?_eq_some_iff.1 e).1
  exact ⟨(hk.block b (lt a1) h1).trans a1, (hk.block bn (lt a2) h2).trans a2, (hk.block bd (lt a3) h3).trans a3, a4.to fun k hv => hk.block k (a4.lt k hv).2 (h4 k hv), rest⟩

theorem SlabAt.below {w w' : World} {base b bn bd : Nat} {wv : Value} {s : Sl} (h : SlabAt w base b bn bd wv s) (hb : Below w.heap.size w w') : SlabAt w' base b bn bd wv s := by
  obtain ⟨a1, a2, a3, a4, rest⟩ := h
  have lt : ∀ {g : Nat} {o : Obj}, w.heap[g]? = some o → g < w.heap.size := fun e => (Array.getElem?_eq_some_iff.1 e).1
  exact ⟨(hb.block b (lt a1)).trans a1, (hb.block bn (lt a2)).trans a2, (hb.block bd (lt a3)).trans a3, a4.to fun k hv => hb.block k (a4.lt k hv).2, rest⟩

/-- The head is written anew; all else is as it was. -/
theorem SlabAt.head {w w' : World} {base b bn bd : Nat} {wv : Value} {s s' : Sl} (h : SlabAt w base b bn bd wv s) (hk : Keeps (fun k => k = b) w w')
    (hb : w'.heap[b]? = some (.cells #[.slice (some ⟨bn, 0, none⟩) s'.n s'.n, .slice (some ⟨bd, 0, none⟩) s'.n s'.n, wv, .bool s'.off, .int .i64 (s'.armed : Int), .int .i64 (s'.steps : Int)] 86 (0, 0)))
    (e1 : s'.now = s.now) (e2 : s'.done = s.done) (e3 : s'.way = s.way) (hok : s'.ok) : SlabAt w' base b bn bd wv s' := by
  obtain ⟨a1, a2, a3, a4, r1, r2, r3, r4, r5, r6, r7, _⟩ := h
  have lt : ∀ {g : Nat} {o : Obj}, w.heap[g]? = some o → g < w.heap.size := fun e => (Array.getElem?_eq_some_iff.1 e).1
  refine ⟨hb, ?_, ?_, ?_, r1, r2, r3, r4, r5, r6, r7, hok⟩
  · rw [e1]; exact (hk.block bn (lt a2) (fun e => r4 e.symm)).trans a2
  · rw [e2]; exact (hk.block bd (lt a3) (fun e => r5 e.symm)).trans a3
  · rw [e3]; exact a4.to fun k hv => hk.block k (a4.lt k hv).2 (r7 k hv).1

theorem SlabAt.cells {w : World} {base b bn bd : Nat} {wv : Value} {s : Sl} (h : SlabAt w base b bn bd wv s) :
    w.cell? ⟨b, 0, none⟩ = some (.slice (some ⟨bn, 0, none⟩) s.n s.n) ∧ w.cell? ⟨b, 1, none⟩ = some (.slice (some ⟨bd, 0, none⟩) s.n s.n) ∧ w.cell? ⟨b, 2, none⟩ = some wv ∧ w.cell? ⟨b, 3, none⟩ = some (.bool s.off) ∧
    w.cell? ⟨b, 4, none⟩ = some (.int .i64 (s.armed : Int)) ∧ w.cell? ⟨b, 5, none⟩ = some (.int .i64 (s.steps : Int)) ∧ ∀ j, w.frozen? ⟨b, j, none⟩ = false :=
  ⟨(cell_of_row _ _ _ _ _ _ h.1).trans rfl, (cell_of_row _ _ _ _ _ _ h.1).trans rfl, (cell_of_row _ _ _ _ _ _ h.1).trans rfl, (cell_of_row _ _ _ _ _ _ h.1).trans rfl, (cell_of_row _ _ _ _ _ _ h.1).trans rfl, (cell_of_row _ _ _ _ _ _ h.1).trans rfl, fun _ => frozen_of_row _ _ _ _ _ h.1⟩

theorem keeps_set (w : World) (b j : Nat) (V : Value) : Keeps (fun k => k = b) w (w.setCell ⟨b, j, none⟩ V) := (Keeps.refl (fun k => k = b) w).setCell (p := ⟨b, j, none⟩) (fun _ => rfl) _

set_option maxHeartbeats 1000000 in
theorem step_any (base b bn bd : Nat) (wv : Value) (s : Sl) (w : World) (h : SlabAt w base b bn bd wv s) (hst : s.steps ≤ 1000000) :
    Calls Try.prog 44 #[.pointer (some ⟨b, 0, none⟩)] w fun e w' => e = .returned (.int .i64 s.stepE) ∧ SlabAt w' base b bn bd wv s.step ∧ Keeps (fun k => k = b) w w' := by
  obtain ⟨c0, c1, c2, c3, c4, c5, hf⟩ := h.cells
  have hok := h.2.2.2.2.2.2.2.2.2.2.2
  have f3 := hf 3
  have f4 := hf 4
  have f5 := hf 5
  have H := hid h
  have HOK := hid hok
  have ha7 : s.armed ≤ 9223372036854775807 := hok.2.2.2.2.2.2
  clear hf h hok
  by_cases h0 : s.armed = 0
  · have HE := hid (show s.stepE = 0 by unfold Sl.stepE; rw [if_neg (by omega)])
    have HS := hid (show s.step = { s with steps := s.steps + 1 } by unfold Sl.step; rw [h0]; simp)
    have hb0 : (((s.armed : Int)) == 0) = true := by rw [beq_iff_eq]; omega
    have H0 := hid h0
    clear h0
    go_enter Try.func44, Try.ntmps44
    go_wp2
    go_ret
    refine ⟨by rw [HE.out]; rfl, ?_, keeps_set _ _ _ _⟩
    rw [HS.out]
    refine H.out.head (keeps_set _ _ _ _) ?_ rfl rfl rfl ?_
    · exact (heap_setCell_same _ _ _ _ _ _ H.out.1).trans (by simp)
    · obtain ⟨o1, o2, o3, o4, o5, o6, o7⟩ := HOK.out
      exact ⟨o1, o2, o3, o4, o5, o6, o7⟩
  · have hb0 : (((s.armed : Int)) == 0) = false := by rw [beq_eq_false_iff_ne]; omega
    have hp : 1 ≤ (s.armed : Int) := by omega
    have hK2 : ∀ (u v : Value), Keeps (fun k => k = b) w ((w.setCell ⟨b, 5, none⟩ u).setCell ⟨b, 4, none⟩ v) := fun u v => (keeps_set _ _ _ _).trans (keeps_set _ _ _ _)
    have hK3 : ∀ (u v x : Value), Keeps (fun k => k = b) w (((w.setCell ⟨b, 5, none⟩ u).setCell ⟨b, 4, none⟩ v).setCell ⟨b, 3, none⟩ x) := fun u v x => ((keeps_set _ _ _ _).trans (keeps_set _ _ _ _)).trans (keeps_set _ _ _ _)
    have HK2 := hid hK2
    have HK3 := hid hK3
    clear hK2 hK3
    by_cases h1 : s.armed = 1
    · have HE := hid (show s.stepE = 13 by unfold Sl.stepE; rw [if_pos h1])
      have HS := hid (show s.step = { s with steps := s.steps + 1, armed := 0, off := true } by unfold Sl.step; rw [h1]; simp)
      have hq : ¬ 0 < (s.armed : Int) - 1 := by omega
      have HA := hid (show (s.armed : Int) - 1 = ((0 : Nat) : Int) by omega)
      clear h0 h1
      go_enter Try.func44, Try.ntmps44
      go_wp2
      go_ret
      refine ⟨by rw [HE.out]; rfl, ?_, HK3.out _ _ _⟩
      rw [HS.out]
      refine H.out.head (HK3.out _ _ _) ?_ rfl rfl rfl ?_
      · rw [heap_setCell_same _ _ _ _ _ _ (heap_setCell_same _ _ _ _ _ _ (heap_setCell_same _ _ _ _ _ _ H.out.1)), HA.out]
        simp
      · obtain ⟨o1, o2, o3, o4, o5, o6, o7⟩ := HOK.out
        exact ⟨o1, o2, o3, o4, o5, o6, by simp only; omega⟩
    · have HE := hid (show s.stepE = 0 by unfold Sl.stepE; rw [if_neg h1])
      have HS := hid (show s.step = { s with steps := s.steps + 1, armed := s.armed - 1 } by unfold Sl.step; simp [h1])
      have hq : 0 < (s.armed : Int) - 1 := by omega
      have HA := hid (show (s.armed : Int) - 1 = ((s.armed - 1 : Nat) : Int) by omega)
      clear h0 h1
      go_enter Try.func44, Try.ntmps44
      go_wp2
      go_ret
      refine ⟨by rw [HE.out]; rfl, ?_, HK2.out _ _⟩
      rw [HS.out]
      refine H.out.head (HK2.out _ _) ?_ rfl rfl rfl ?_
      · rw [heap_setCell_same _ _ _ _ _ _ (heap_setCell_same _ _ _ _ _ _ H.out.1), HA.out]
        simp
      · obtain ⟨o1, o2, o3, o4, o5, o6, o7⟩ := HOK.out
        exact ⟨o1, o2, o3, o4, o5, o6, by simp only; omega⟩

end Go.Proofs.Ytbagpckiegpalaa
