/-
  Layer 10: Hear and Tick, whole.
-/
import Derived.Test.YtjpojlkdogaalaaTalkL
namespace Go.Proofs.Ytjpojlkdogaalaa
open Go.RowKit
set_option linter.unusedVariables false
set_option linter.unusedSimpArgs false

theorem hear_any (base : B9) (b : Nat) (s : Tk) (k : Pk) (va : Option Addr) (vc : Nat) (w : World) (h : TkAt w base b s) (hb : base.n ≤ w.heap.size) (hv : Far w base.n (.slice va k.data.length vc) k.data) (hkl : k.data.length ≤ 1000000) (hh1 : s.heard < 1000000) :
    Calls Try.prog 21 #[.pointer (some ⟨b, 0, none⟩), .agg #[.int .u8 k.node, .int .u32 k.epoch, .int .u32 k.life, .int .u32 (k.seq : Int), .int .u32 (k.ack : Int), .bool k.plain, .slice va k.data.length vc]] w fun e w' => ∃ x1 c1 x2 c2, e = .returned (.tuple #[.slice x1 (s.gets k).length c1, .bool (s.fresh k), .agg #[.int .u8 (s.ans k).node, .int .u32 (s.ans k).epoch, .int .u32 (s.ans k).life, .int .u32 ((s.ans k).seq : Int), .int .u32 ((s.ans k).ack : Int), .bool (s.ans k).plain, .slice x2 (s.ans k).data.length c2], .bool (s.resp k)]) ∧ Own w' w.heap.size (.slice x1 (s.gets k).length c1) (s.gets k) ∧ Own w' w.heap.size (.slice x2 (s.ans k).data.length c2) (s.ans k).data ∧ TkAt w' base b (s.hear k) ∧ KQ base w w' := by
  by_cases hm : s.mine k = false
  · have e1 : s.fresh k = false := by unfold Tk.fresh; rw [hm]; rfl
    have e2 : s.resp k = false := by unfold Tk.resp; rw [hm]; rfl
    have e3 : s.gets k = [] := by unfold Tk.gets; rw [e1]; rfl
    have e4 : s.ans k = Pk.zero := by unfold Tk.ans; rw [e2]; rfl
    have e5 : s.hear k = s := by unfold Tk.hear; rw [if_pos hm]
    rw [e1, e2, e3, e4, e5]
    refine (hear_not base b s k va vc w h hm).mono ?_
    rintro e w' ⟨rfl, hb'⟩
    exact ⟨none, 0, none, 0, rfl, World.ownsRow_nil _ _ _ _, World.ownsRow_nil _ _ _ _, h.below hb', KQ.of_below hb' hb⟩
  · have hm' : s.mine k = true := by simpa using hm
    by_cases hz : k.seq = 0
    · have e1 : s.fresh k = false := by unfold Tk.fresh; simp [hz]
      have e2 : s.resp k = false := by unfold Tk.resp; simp [hz]
      have e3 : s.gets k = [] := by unfold Tk.gets; rw [e1]; rfl
      have e4 : s.ans k = Pk.zero := by unfold Tk.ans; rw [e2]; rfl
      have e5 : s.hear k = s.settle k.ack := by unfold Tk.hear; rw [if_neg hm, if_neg (by omega)]
      rw [e1, e2, e3, e4, e5]
      refine (hear_zero base b s k va vc w h hb hv hkl hm' hz).mono ?_
      rintro e w' ⟨rfl, h', k'⟩
      exact ⟨none, 0, none, 0, rfl, World.ownsRow_nil _ _ _ _, World.ownsRow_nil _ _ _ _, h', k'⟩
    · have e2 : s.resp k = true := by unfold Tk.resp; simp [hm', hz]
      by_cases hn : k.seq = s.heard + 1
      · have e1 : s.fresh k = true := by unfold Tk.fresh; simp [hm', hn]
        have e3 : s.gets k = k.data := by unfold Tk.gets; rw [e1]; rfl
        have e5 : s.hear k = { s.settle k.ack with heard := s.heard + 1 } := by unfold Tk.hear; rw [if_neg hm, if_pos hn]
        have e4 : s.ans k = ⟨s.node, s.epoch, s.life, 0, s.heard + 1, false, []⟩ := by unfold Tk.ans; rw [e2, if_pos rfl, e5]; rfl
        rw [e1, e2, e3, e4, e5]
        refine (hear_new base b s k va vc w h hb hv hkl hm' hn hh1).mono ?_
        rintro e w' ⟨x1, c1, x2, c2, rfl, o1, o2, h', k'⟩
        exact ⟨x1, c1, x2, c2, rfl, o1, o2, h', k'⟩
      · have e1 : s.fresh k = false := by unfold Tk.fresh; simp [hn]
        have e3 : s.gets k = [] := by unfold Tk.gets; rw [e1]; rfl
        have e5 : s.hear k = s.settle k.ack := by unfold Tk.hear; rw [if_neg hm, if_neg hn]
        have e4 : s.ans k = ⟨s.node, s.epoch, s.life, 0, s.heard, false, []⟩ := by unfold Tk.ans; rw [e2, if_pos rfl, e5]; rfl
        rw [e1, e2, e3, e4, e5]
        refine (hear_again base b s k va vc w h hb hv hkl hm' hz hn).mono ?_
        rintro e w' ⟨x2, c2, rfl, o2, h', k'⟩
        exact ⟨none, 0, x2, c2, rfl, World.ownsRow_nil _ _ _ _, o2, h', k'⟩

theorem tick_any (base : B9) (b : Nat) (s : Tk) (w : World) (h : TkAt w base b s) (hb : base.n ≤ w.heap.size) (hc : s.clock < 1000000) :
    Calls Try.prog 16 #[.pointer (some ⟨b, 0, none⟩)] w fun e w' => ∃ va vc, e = .returned (.slice va s.outs.length vc) ∧ PkRow w' w.heap.size (.slice va s.outs.length vc) s.outs ∧ TkAt w' base b s.tick ∧ KQ base w w' := by
  by_cases hd : s.tock.due = true
  · have e1 : s.outs = s.packs s.l.length := by unfold Tk.outs; rw [if_pos hd]
    have e2 : s.tick = s.tock.tell s.l.length := by unfold Tk.tick; rw [if_pos hd]
    rw [e2]
    refine (tick_told base b s w h hb hc hd).mono ?_
    rintro e w' ⟨v, rfl, hp, h', k'⟩
    rw [← e1] at hp
    obtain ⟨va, vc, rfl⟩ := hp.slice
    exact ⟨va, vc, rfl, hp, h', k'⟩
  · have hd' : s.tock.due = false := by simpa using hd
    have e1 : s.outs = [] := by unfold Tk.outs; rw [if_neg hd]
    have e2 : s.tick = s.tock := by unfold Tk.tick; rw [if_neg hd]
    rw [e1, e2]
    by_cases hl : s.l.length = 0
    · refine (tick_none base b s w h hb hc hl).mono ?_
      rintro e w' ⟨rfl, h', k'⟩
      exact ⟨none, 0, rfl, PkRow.nil _ _, h', k'⟩
    · refine (tick_early base b s w h hb hc (by omega) hd').mono ?_
      rintro e w' ⟨rfl, h', k'⟩
      exact ⟨none, 0, rfl, PkRow.nil _ _, h', k'⟩

/-- The end's blocks, told anew: those that were, and of the new ones those that there are. -/
theorem TkAt.loc' {w : World} {base : B9} {b : Nat} {s : Tk} (h : TkAt w base b s) (Q : Nat → Prop) (hQ : ∀ k, k < w.heap.size → base.Q k → Q k) : TkAt w ⟨base.n, base.P, Q⟩ b s := by
  obtain ⟨fv, PF, hh⟩ := h
  refine ⟨fv, PF, hh.head, hh.row, hh.list, hh.own, hh.low, hh.ok, hh.far, fun k hk => hQ k ?_ (hh.loc k hk)⟩
  rcases hk with rfl | hk
  · exact hh.lt
  · exact (World.ownsRow.lt hh.row k hk).2

/-- What another end's call leaves. -/
theorem TkAt.keptQ {w w' : World} {base base' : B9} {b : Nat} {s : Tk} (h : TkAt w base b s) (hk : KQ base' w w') (hd : ∀ k, k < w.heap.size → base.Q k → ¬ base'.Q k) : TkAt w' base b s := by
  obtain ⟨fv, PF, hh⟩ := h
  have hblk : ∀ k, k < w.heap.size → (k = b ∨ fv.ownBlock = some k) → w'.heap[k]? = w.heap[k]? := fun k hlt hk' => hk.q k hlt (hd k hlt (hh.loc k hk'))
  refine ⟨fv, PF, (hblk b hh.lt (.inl rfl)).trans hh.head, owns_by hh.row (fun k hk' => hblk k (World.ownsRow.lt hh.row k hk').2 (.inr hk')), hh.list, fun x hx => (hh.own x hx).kt hk.kt (by decide), hh.low, hh.ok, hh.far, hh.loc⟩

/-- Wherever its blocks lie. -/
theorem TkAt.free {w : World} {base : B9} {b : Nat} {s : Tk} (h : TkAt w base b s) : TkAt w base.n b s := by
  obtain ⟨fv, PF, hh⟩ := h
  exact ⟨fv, PF, hh.head, hh.row, hh.list, hh.own, hh.low, hh.ok, fun _ _ _ _ => trivial, fun _ _ => trivial⟩

end Go.Proofs.Ytjpojlkdogaalaa
