/-
  What a call leaves as it was, told by the types of the blocks that it may write.
-/
import Derived.Test.YtdongghjchnpbaaKit
namespace Go.Proofs.Ytdongghjchnpbaa
open Go.RowKit
set_option linter.unusedVariables false

/-- Blocks of these types may be written; what lies below base isn't. -/
structure KT (ts : List TypeId) (base : Nat) (w w' : World) : Prop where
  keeps : Keeps (fun k => ∃ cs t fr, w.heap[k]? = some (.cells cs t fr) ∧ t ∈ ts) w w'
  below : Below base w w'

theorem KT.refl (ts : List TypeId) (base : Nat) (w : World) : KT ts base w w := ⟨Keeps.refl _ _, Below.refl _ _⟩

theorem KT.trans {ts : List TypeId} {base : Nat} {a b c : World} (h : KT ts base a b) (k : KT ts base b c) : KT ts base a c := by
  refine ⟨h.keeps.trans' k.keeps ?_, h.below.trans k.below⟩
  rintro i hi ⟨cs, t, fr, hb, ht⟩
  by_cases hs : ∃ cs t fr, a.heap[i]? = some (.cells cs t fr) ∧ t ∈ ts
  · exact hs
  · exact ⟨cs, t, fr, (h.keeps.block i hi hs).symm.trans hb, ht⟩

theorem KT.mono {ts us : List TypeId} {base base' : Nat} {w w' : World} (h : KT ts base w w') (hs : ∀ t, t ∈ ts → t ∈ us) (hb : base' ≤ base) : KT us base' w w' :=
  ⟨h.keeps.mono fun i hi ⟨cs, t, fr, e, ht⟩ => ⟨cs, t, fr, e, hs t ht⟩, h.below.mono hb⟩

theorem KT.of_below {ts : List TypeId} {base : Nat} {w w' : World} (h : Below w.heap.size w w') (hb : base ≤ w.heap.size) : KT ts base w w' :=
  ⟨Keeps.of_below h fun i hi hge => absurd hi (by omega), h.mono hb⟩

theorem KT.size {ts : List TypeId} {base : Nat} {w w' : World} (h : KT ts base w w') : w.heap.size ≤ w'.heap.size := h.keeps.size

theorem KT.drew {ts : List TypeId} {base : Nat} {a w : World} (h : KT ts base a w) : KT ts base a w.drew := ⟨h.keeps.drew, ⟨h.below.os, h.below.tape, h.below.output, h.below.size, h.below.block⟩⟩

/-- A block of another type is as it was. -/
theorem KT.block {ts : List TypeId} {base : Nat} {w w' : World} (h : KT ts base w w') {k : Nat} {cs : Array Value} {t : TypeId} {fr : Nat × Nat} (hk : w.heap[k]? = some (.cells cs t fr)) (ht : t ∉ ts) : w'.heap[k]? = some (.cells cs t fr) := by
  refine (h.keeps.block k (Array.getElem?_eq_some_iff.1 hk).1 ?_).trans hk
  rintro ⟨cs', t', fr', e, h'⟩
  rw [hk] at e
  simp only [Option.some.injEq, Obj.cells.injEq] at e
  exact ht (e.2.1 ▸ h')

theorem owns_ty {w : World} {base : Nat} {e : TypeId} {size : Nat} {v : Value} {n : Nat} {xs : List Value} (h : w.ownsRow base e size v n xs) : ∀ k, v.ownBlock = some k → ∃ cur, w.heap[k]? = some (.cells cur e (0, 0)) := by
  intro k hk
  rcases h.2 with ⟨rfl, hn⟩ | ⟨g, cap, cur, rfl, hb, hgg, _⟩
  · cases hk
  · have e : g = k := Option.some.inj hk
    subst e
    exact ⟨_, hgg⟩

theorem owns_by {w w' : World} {base : Nat} {e : TypeId} {size : Nat} {v : Value} {n : Nat} {xs : List Value} (h : w.ownsRow base e size v n xs) (hc : ∀ k, v.ownBlock = some k → w'.heap[k]? = w.heap[k]?) : w'.ownsRow base e size v n xs := by
  refine ⟨h.1, ?_⟩
  rcases h.2 with hn | ⟨g, cap, cur, rfl, hb, hgg, rest⟩
  · exact .inl hn
  · exact .inr ⟨g, cap, cur, rfl, hb, by rw [hc g rfl]; exact hgg, rest⟩

theorem owns_kt {ts : List TypeId} {b0 : Nat} {w w' : World} {base : Nat} {e : TypeId} {size : Nat} {v : Value} {n : Nat} {xs : List Value} (h : w.ownsRow base e size v n xs) (hk : KT ts b0 w w') (he : e ∉ ts) : w'.ownsRow base e size v n xs := by
  refine owns_by h fun k hv => ?_
  obtain ⟨cur, hc⟩ := owns_ty h k hv
  rw [hk.block hc he, hc]

theorem owns_below {w w' : World} {base : Nat} {e : TypeId} {size : Nat} {v : Value} {n : Nat} {xs : List Value} (h : w.ownsRow base e size v n xs) (hb : Below w.heap.size w w') : w'.ownsRow base e size v n xs :=
  owns_by h fun k hv => hb.block k (World.ownsRow.lt h k hv).2

theorem owns_base {w : World} {base base' : Nat} {e : TypeId} {size : Nat} {v : Value} {n : Nat} {xs : List Value} (h : w.ownsRow base e size v n xs) (hb : base' ≤ base) : w.ownsRow base' e size v n xs := by
  refine ⟨h.1, ?_⟩
  rcases h.2 with hn | ⟨g, cap, cur, rfl, hbb, hgg, rest⟩
  · exact .inl hn
  · exact .inr ⟨g, cap, cur, rfl, by omega, hgg, rest⟩

theorem Own.kt {ts : List TypeId} {b0 : Nat} {w w' : World} {base : Nat} {v : Value} {l : List UInt8} (h : Own w base v l) (hk : KT ts b0 w w') (he : 5 ∉ ts) : Own w' base v l := owns_kt h hk he

/-- What is written where S is: blocks of these types, from base on. -/
theorem KT.of_keeps {ts : List TypeId} {base : Nat} {S : Nat → Prop} {w w' : World} (h : Keeps S w w') (hS : ∀ k, k < w.heap.size → S k → base ≤ k ∧ ∃ cs t fr, w.heap[k]? = some (.cells cs t fr) ∧ t ∈ ts) (hb : base ≤ w.heap.size) : KT ts base w w' :=
  ⟨h.mono fun i hi hs => (hS i hi hs).2, ⟨h.os, h.tape, h.output, h.size, fun i hi => h.block i (by omega) fun hs => by have := (hS i (by omega) hs).1; omega⟩⟩

theorem KT.alloc {ts : List TypeId} {base : Nat} {a w : World} (h : KT ts base a w) (hb : base ≤ w.heap.size) (o : Obj) : KT ts base a (w.alloc o) :=
  h.trans (KT.of_below ((Below.refl _ _).alloc (Nat.le_refl _) _) hb)

/-- A row, whole: its cells from its block's head on. -/
theorem owns_cell {w : World} {base : Nat} {e : TypeId} {size : Nat} {g n cap : Nat} {xs : List Value} (h : w.ownsRow base e size (.slice (some ⟨g, 0, none⟩) n cap) n xs) (j : Nat) (hj : j < xs.length) : w.cell? ⟨g, j, none⟩ = some (xs.getD j (.bool false)) := by
  have := World.ownsRow.cells h (g := g) rfl j (xs.getD j (.bool false)) (by simp [List.getD_eq_getElem?_getD, List.getElem?_eq_getElem hj])
  rwa [Addr.add_lit, Nat.zero_add] at this

theorem owns_frozen {w : World} {base : Nat} {e : TypeId} {size : Nat} {g n cap : Nat} {xs : List Value} (h : w.ownsRow base e size (.slice (some ⟨g, 0, none⟩) n cap) n xs) (j : Nat) : w.frozen? ⟨g, j, none⟩ = false := by
  rcases h.2 with ⟨hv, _⟩ | ⟨g', cap', cur, hv, _, hgg, _⟩
  · cases hv
  · simp only [Value.slice.injEq, Option.some.injEq, Addr.mk.injEq] at hv
    rw [hv.1.1]
    exact frozen_of_row _ _ _ _ _ hgg

/-- Its shape: nil, or at a block's head. -/
theorem owns_shape {w : World} {base : Nat} {e : TypeId} {size : Nat} {v : Value} {n : Nat} {xs : List Value} (h : w.ownsRow base e size v n xs) :
    (v = .slice none 0 0 ∧ n = 0) ∨ ∃ g cap, v = .slice (some ⟨g, 0, none⟩) n cap ∧ base ≤ g ∧ g < w.heap.size ∧ n ≤ cap ∧ cap ≤ 9223372036854775807 := by
  rcases h.2 with hn | ⟨g, cap, cur, rfl, hb, hgg, h1, h2, _⟩
  · exact .inl hn
  · exact .inr ⟨g, cap, rfl, hb, (Array.getElem?_eq_some_iff.1 hgg).1, h1, by unfold maxLen at h2; exact h2⟩

theorem owns_slice {w : World} {base : Nat} {e : TypeId} {size : Nat} {v : Value} {n : Nat} {xs : List Value} (h : w.ownsRow base e size v n xs) : ∃ a c, v = .slice a n c ∧ n ≤ c ∧ c ≤ 9223372036854775807 := by
  rcases owns_shape h with ⟨rfl, rfl⟩ | ⟨g, cap, rfl, _, _, h1, h2⟩
  · exact ⟨none, 0, rfl, Nat.le_refl _, by omega⟩
  · exact ⟨_, cap, rfl, h1, h2⟩

/-- The block of a row is written anew: its first cells. -/
theorem owns_setRow {w : World} {base : Nat} {e : TypeId} {size : Nat} {g n cap : Nat} {xs : List Value} (h : w.ownsRow base e size (.slice (some ⟨g, 0, none⟩) n cap) n xs) :
    ∃ cur : Array Value, w.heap[g]? = some (.cells cur e (0, 0)) ∧ cur.size = cap * size ∧ cur.toList.take (n * size) = xs ∧ n ≤ cap ∧ cap ≤ maxLen ∧ base ≤ g := by
  rcases h.2 with ⟨hv, _⟩ | ⟨g', cap', cur, hv, hb, hgg, h1, h2, h3, h4⟩
  · cases hv
  · simp only [Value.slice.injEq, Option.some.injEq, Addr.mk.injEq] at hv
    obtain ⟨⟨rfl, _⟩, _, rfl⟩ := hv
    exact ⟨cur, hgg, h3, h4, h1, h2, hb⟩

end Go.Proofs.Ytdongghjchnpbaa
