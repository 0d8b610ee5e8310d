/-
  TalkPlays: what its round wants: an Op in a variable of its own; bytes that are written beside the ends.
-/
import Derived.Test.YtjpojlkdogaalaaOps10
namespace Go.Proofs.Ytjpojlkdogaalaa
open Go.RowKit
set_option linter.unusedVariables false
set_option linter.unusedSimpArgs false

theorem size_op10 : (Try.prog.info? 33).map (·.size) = some 9 := by kernel_rfl

abbrev opZero : Array Value := #[.int .u8 0, .slice none 0 0, .int .u8 0, .int .u32 0, .int .u32 0, .int .u32 0, .int .u32 0, .bool false, .slice none 0 0]

section
variable {w : World} {ops : Array Oper} {rest : List Oper} {o : Oper} {a : Act} {Q : Exit → Act → World → Prop}

theorem op_fresh (hgd : o.guard = none) (x y : Operand) (ho : o.op = .store 33 x y)
    (W : World) (cs : Array Value) (hx : a.eval x = .pointer (some ⟨W.heap.size, 0, none⟩)) (hy : a.eval y = .agg cs) (hs : cs.size = 9) (h1 : cs.all (·.oneCell') = true)
    (h : ∀ w' : World, w'.heap[W.heap.size]? = some (.cells cs 33 (0, 0)) → Below W.heap.size W w' → wpList Try.prog ops Q rest (a.put o.dst undef) w') :
    wpList Try.prog ops Q (o :: rest) a (W.alloc (.cells opZero 33)) := by
  have e := heap_alloc_new W (.cells opZero 33)
  refine wpList_store_row hgd _ x y ho W.heap.size cs hx hy _ _ e (by rw [size_op10, hs]) (by rw [hs]; rfl) h1 ?_
  refine h _ (setRow_heap (W.alloc _) W.heap.size _ _ _ _ e) ?_
  exact ((Below.refl _ _).alloc (Nat.le_refl _) _).trans (setRow_below _ (Nat.le_refl _))
end

/-- Bytes elsewhere are written. -/
theorem TkAt.bytes {S : Nat → Prop} {w w' : World} {base : B9} {b : Nat} {s : Tk} (h : TkAt w base b s) (hk : Keeps S w w') (hS : ∀ k, k < w.heap.size → S k → (∃ cs fr, w.heap[k]? = some (.cells cs 5 fr)) ∧ ¬ base.P k) : TkAt w' base b s := by
  obtain ⟨fv, PF, hh⟩ := h
  have ne : ∀ (k : Nat) (c : Array Value) (t : TypeId) (fr : Nat × Nat), w.heap[k]? = some (.cells c t fr) → t ≠ 5 → w'.heap[k]? = w.heap[k]? := fun k c t fr hc ht => hk.block k (Array.getElem?_eq_some_iff.1 hc).1 (fun hs => by
    obtain ⟨⟨c', fr', e⟩, _⟩ := hS k (Array.getElem?_eq_some_iff.1 hc).1 hs
    exact ty_ne hc e ht rfl)
  refine ⟨fv, PF, (ne b _ _ _ hh.head (by decide)).trans hh.head, owns_by hh.row (fun k hk' => ?_), hh.list, fun x hx => owns_by (hh.own x hx) (fun k hk' => ?_), hh.low, hh.ok, hh.far, hh.loc⟩
  · obtain ⟨cur, hc⟩ := owns_ty hh.row k hk'
    exact ne k _ _ _ hc (by decide)
  · exact hk.block k ((hh.own x hx).lt k hk').2 (fun hs => (hS k ((hh.own x hx).lt k hk').2 hs).2 (hh.far x hx k hk'))

theorem RtAt.bytes {S : Nat → Prop} {w w' : World} {base : B9} {b : Nat} {s : Tk} (h : RtAt w base b s) (hk : Keeps S w w') (hS : ∀ k, k < w.heap.size → S k → (∃ cs fr, w.heap[k]? = some (.cells cs 5 fr)) ∧ ¬ base.P k) : RtAt w' base b s := by
  obtain ⟨sv, tv, PF, hh⟩ := h
  have ne : ∀ (k : Nat) (c : Array Value) (t : TypeId) (fr : Nat × Nat), w.heap[k]? = some (.cells c t fr) → t ≠ 5 → w'.heap[k]? = w.heap[k]? := fun k c t fr hc ht => hk.block k (Array.getElem?_eq_some_iff.1 hc).1 (fun hs => by
    obtain ⟨⟨c', fr', e⟩, _⟩ := hS k (Array.getElem?_eq_some_iff.1 hc).1 hs
    exact ty_ne hc e ht rfl)
  refine ⟨sv, tv, PF, (ne b _ _ _ hh.head (by decide)).trans hh.head, owns_by hh.said (fun k hk' => ?_), owns_by hh.told (fun k hk' => ?_), hh.list, fun x hx => owns_by (hh.own x hx) (fun k hk' => ?_), hh.low, hh.ok, hh.far⟩
  · obtain ⟨cur, hc⟩ := owns_ty hh.said k hk'
    exact ne k _ _ _ hc (by decide)
  · obtain ⟨cur, hc⟩ := owns_ty hh.told k hk'
    exact ne k _ _ _ hc (by decide)
  · exact hk.block k ((hh.own x hx).lt k hk').2 (fun hs => (hS k ((hh.own x hx).lt k hk').2 hs).2 (hh.far x hx k hk'))

theorem RtAt.free {w : World} {base : B9} {b : Nat} {s : Tk} (h : RtAt w base b s) : RtAt w base.n b s := by
  obtain ⟨sv, tv, PF, hh⟩ := h
  exact ⟨sv, tv, PF, hh.head, hh.said, hh.told, hh.list, hh.own, hh.low, hh.ok, fun _ _ _ _ => trivial⟩

theorem TkAt.farP {w : World} {base : B9} {b : Nat} {s : Tk} (h : TkAt w base b s) (P : Nat → Prop) (hP : ∀ k, k < w.heap.size → base.P k → P k) : TkAt w ⟨base.n, P, base.Q⟩ b s := by
  obtain ⟨fv, PF, hh⟩ := h
  exact ⟨fv, PF, hh.far' P hP⟩

theorem xor10 (x : UInt8) : Go.bits .xor .u8 (x.toNat : Int) 1 = ((x ^^^ 1).toNat : Int) := by
  have := u8_xor_nat x.toNat 1 x.toNat_lt (by omega)
  rw [show (1 : Int) = ((1 : Nat) : Int) from rfl, this]
  rfl

theorem own_head10 {w : World} {base : Nat} {a : Option Addr} {n c : Nat} {l : List UInt8} (h : Own w base (.slice a n c) l) (h0 : 0 < l.length) : ∃ g c', Value.slice a n c = .slice (some ⟨g, 0, none⟩) n c' := by
  rcases h.shape with ⟨_, rfl⟩ | ⟨g, cap, e, _⟩
  · cases h0
  · simp only [Value.slice.injEq] at e
    obtain ⟨rfl, rfl, rfl⟩ := e
    exact ⟨g, c, rfl⟩

theorem Tk.hear_len (s : Tk) (k : Pk) : (s.hear k).all.length = s.all.length ∧ (s.hear k).heard ≤ s.heard + 1 ∧ (s.hear k).clock = s.clock := by
  unfold Tk.hear
  split
  · exact ⟨rfl, Nat.le_succ _, rfl⟩
  · split
    · exact ⟨rfl, Nat.le_refl _, rfl⟩
    · exact ⟨rfl, Nat.le_succ _, rfl⟩

theorem Tk.tick_len (s : Tk) (h : s.done ≤ s.all.length) : s.tick.all.length = s.all.length ∧ s.tick.heard = s.heard ∧ s.tick.clock = s.clock + 1 := by
  unfold Tk.tick
  split
  · exact ⟨Tk.tell_len s.tock _ (by rw [s.l_len]; show s.done + _ ≤ s.all.length; omega), rfl, rfl⟩
  · exact ⟨rfl, rfl, rfl⟩

end Go.Proofs.Ytjpojlkdogaalaa
