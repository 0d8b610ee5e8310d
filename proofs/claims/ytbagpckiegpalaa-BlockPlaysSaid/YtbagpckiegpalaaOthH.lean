/-
  SlabOthers: where what is wanted lies.
-/
import Derived.Test.YtbagpckiegpalaaOthM
import Derived.Test.YtbagpckiegpalaaKeepT
import Derived.Test.YtbagpckiegpalaaAppR
import Derived.Test.YtbagpckiegpalaaAppG
namespace Go.Proofs.Ytbagpckiegpalaa
open Go.RowKit
set_option linter.unusedVariables false

def nilv : Value := .slice none 0 0

/-- A sector's bytes, at the head of a block of bytes that is none of the slab's. -/
def RowX (w : World) (b bn bd : Nat) (v : Value) (l : List UInt8) : Prop :=
  Rd w v l ∧ l.length = 128 ∧ ∃ g c cs t, v = .slice (some ⟨g, 0, none⟩) 128 c ∧ w.heap[g]? = some (.cells cs t (0, 0)) ∧ (t = 5 ∨ t = 98) ∧ g ≠ b ∧ g ≠ bn ∧ g ≠ bd

theorem RowX.keeps {S : Nat → Prop} {w w' : World} {b bn bd : Nat} {v : Value} {l : List UInt8} (h : RowX w b bn bd v l) (hk : Keeps S w w') (hS : ∀ g cs t, w.heap[g]? = some (.cells cs t (0, 0)) → (t = 5 ∨ t = 98) → g ≠ b → g ≠ bn → g ≠ bd → ¬ S g) : RowX w' b bn bd v l := by
  obtain ⟨h1, h2, g, c, cs, t, rfl, hg, ht, n1, n2, n3⟩ := h
  have hn := hS g cs t hg ht n1 n2 n3
  refine ⟨h1.keepsB hk (fun k e => ?_), h2, g, c, cs, t, rfl, (hk.block g (Array.getElem?_eq_some_iff.1 hg).1 hn).trans hg, ht, n1, n2, n3⟩
  have : g = k := Option.some.inj e
  subst this
  exact hn

def RowsX (w : World) (b bn bd : Nat) (VV : List Value) (L : List (List UInt8)) : Prop := VV.length = L.length ∧ ∀ (r : Nat) (q : List UInt8), L[r]? = some q → ∃ v, VV[r]? = some v ∧ RowX w b bn bd v q

theorem RowsX.push {w : World} {b bn bd : Nat} {VV : List Value} {L : List (List UInt8)} {v : Value} {q : List UInt8} (h : RowsX w b bn bd VV L) (hx : RowX w b bn bd v q) : RowsX w b bn bd (VV ++ [v]) (L ++ [q]) := by
  refine ⟨by simp [h.1], fun r y hy => ?_⟩
  rcases Nat.lt_or_ge r L.length with hi | hi
  · rw [List.getElem?_append_left hi] at hy
    obtain ⟨u, h1, h2⟩ := h.2 r y hy
    exact ⟨u, by rw [List.getElem?_append_left (by rw [h.1]; exact hi)]; exact h1, h2⟩
  · rw [List.getElem?_append_right hi] at hy
    have hlt := (List.getElem?_eq_some_iff.1 hy).1
    simp only [List.length_cons, List.length_nil] at hlt
    have e : r = L.length := by omega
    subst e
    simp only [Nat.sub_self, List.getElem?_cons_zero, Option.some.injEq] at hy
    subst hy
    exact ⟨v, by rw [List.getElem?_append_right (by rw [h.1]; exact Nat.le_refl _), h.1, Nat.sub_self]; rfl, hx⟩

structure MayAt (w : World) (base b bn bd gm : Nat) (V : List Value) (M : Nat → List (List UInt8)) : Prop where
  head : w.heap[gm]? = some (.cells V.toArray 79 (0, 0))
  len : V.length = 5
  rows : ∀ i, i < 5 → ∃ VV, w.ownsRow base 32 1 (V.getD i nilv) (M i).length VV ∧ RowsX w b bn bd VV (M i)
  low : base ≤ gm
  apart : ∀ i j, i < 5 → j < 5 → i ≠ j → ∀ q, (V.getD i nilv).ownBlock = some q → (V.getD j nilv).ownBlock ≠ some q

theorem MayAt.lt {w : World} {base b bn bd gm : Nat} {V : List Value} {M : Nat → List (List UInt8)} (h : MayAt w base b bn bd gm V M) : gm < w.heap.size := (Array.getElem?_eq_some_iff.1 h.head).1

/-- What writes no block of these. -/
theorem MayAt.keeps {S : Nat → Prop} {w w' : World} {base b bn bd gm : Nat} {V : List Value} {M : Nat → List (List UInt8)} (h : MayAt w base b bn bd gm V M) (hk : Keeps S w w')
    (h1 : ∀ g cs, w.heap[g]? = some (.cells cs 79 (0, 0)) → ¬ S g) (h2 : ∀ g cs, w.heap[g]? = some (.cells cs 32 (0, 0)) → ¬ S g)
    (hS : ∀ g cs t, w.heap[g]? = some (.cells cs t (0, 0)) → (t = 5 ∨ t = 98) → g ≠ b → g ≠ bn → g ≠ bd → ¬ S g) : MayAt w' base b bn bd gm V M := by
  refine ⟨(hk.block gm h.lt (h1 gm _ h.head)).trans h.head, h.len, fun i hi => ?_, h.low, h.apart⟩
  obtain ⟨VV, ho, hx, hr⟩ := h.rows i hi
  refine ⟨VV, owns_by ho fun k e => ?_, hx, fun r q hq => ?_⟩
  · obtain ⟨cur, hc⟩ := owns_ty ho k e
    exact hk.block k (World.ownsRow.lt ho k e).2 (h2 k _ hc)
  · obtain ⟨v, hv, hrow⟩ := hr r q hq
    exact ⟨v, hv, hrow.keeps hk hS⟩

theorem MayAt.below {w w' : World} {base b bn bd gm : Nat} {V : List Value} {M : Nat → List (List UInt8)} (h : MayAt w base b bn bd gm V M) (hb : Below w.heap.size w w') : MayAt w' base b bn bd gm V M := by
  have ne : ∀ {g : Nat} {o : Obj}, w.heap[g]? = some o → ¬ w.heap.size ≤ g := fun e => by have := (Array.getElem?_eq_some_iff.1 e).1; omega
  exact h.keeps (S := fun k => w.heap.size ≤ k) (Keeps.of_below hb fun i _ h => h) (fun g cs e => ne e) (fun g cs e => ne e) (fun g cs t e _ _ _ _ => ne e)

theorem MayAt.slab {w w' : World} {base base2 b bn bd gm : Nat} {V : List Value} {M : Nat → List (List UInt8)} {wv : Value} {s : Sl} (h : MayAt w base b bn bd gm V M) (hs : SlabAt w base2 b bn bd wv s) (hk : Keeps (SlabS b bn bd wv) w w') : MayAt w' base b bn bd gm V M :=
  h.keeps hk (fun g cs e => hs.apart' e (by decide) (by decide) (by decide)) (fun g cs e => hs.apart' e (by decide) (by decide) (by decide))
    (fun g cs t e ht n1 n2 n3 => hs.apart e n1 n2 n3 (by rcases ht with rfl | rfl <;> decide))

/-- One row is another one, and the head names it. -/
theorem MayAt.set {w w5 : World} {base b bn bd gm k : Nat} {V : List Value} {M : Nat → List (List UInt8)} {R : Value} {VV' : List Value} {L' : List (List UInt8)} (h : MayAt w base b bn bd gm V M) (hg : w.grownBy w5 (V.getD k nilv).ownBlock) (hk : k < 5)
    (hR : ∀ q, R.ownBlock = some q → (V.getD k nilv).ownBlock = some q ∨ w.heap.size ≤ q) (ho : w5.ownsRow base 32 1 R L'.length VV') (hx : RowsX w5 b bn bd VV' L') :
    MayAt (w5.setCell ⟨gm, k, none⟩ R) base b bn bd gm (V.set k R) (fun j => if j = k then L' else M j) ∧ KT [32, 79] base w (w5.setCell ⟨gm, k, none⟩ R) := by
  obtain ⟨VK, hok, _⟩ := h.rows k hk
  have hbw : base ≤ w.heap.size := Nat.le_of_lt (Nat.lt_of_le_of_lt h.low h.lt)
  have hk5 : KT [32] base w w5 := KT.of_keeps (Keeps.of_grown hg) (fun q _ e => by
    obtain ⟨cur, hc⟩ := owns_ty hok q e
    exact ⟨(World.ownsRow.lt hok q e).1, _, _, _, hc, by simp⟩) hbw
  have hoth : ∀ i, i < 5 → i ≠ k → ∀ q, (V.getD i nilv).ownBlock = some q → w5.heap[q]? = w.heap[q]? := fun i hi hne q hq => by
    obtain ⟨VI, hoi, _⟩ := h.rows i hi
    exact hg.block q (World.ownsRow.lt hoi q hq).2 (fun e => h.apart i k hi hk hne q hq e.symm)
  have hd := hk5.block h.head (by decide)
  have hks : Keeps (fun q => q = gm) w5 (w5.setCell ⟨gm, k, none⟩ R) := (Keeps.refl (fun q => q = gm) w5).setCell (p := ⟨gm, k, none⟩) (fun _ => rfl) _
  have ne : ∀ {g : Nat} {cs : Array Value} {t : TypeId}, w5.heap[g]? = some (.cells cs t (0, 0)) → t ≠ 79 → ¬ g = gm := fun e ht hg => by
    subst hg
    rw [hd] at e
    simp only [Option.some.injEq, Obj.cells.injEq] at e
    exact ht e.2.1.symm
  have nx : ∀ (g : Nat) (cs : Array Value) (t : TypeId), w5.heap[g]? = some (.cells cs t (0, 0)) → (t = 5 ∨ t = 98) → g ≠ b → g ≠ bn → g ≠ bd → ¬ g = gm := fun g cs t e ht _ _ _ => ne e (by rcases ht with rfl | rfl <;> decide)
  have vk : (V.set k R).getD k nilv = R := by simp [List.getD_eq_getElem?_getD, h.len, hk]
  have vo : ∀ i, i ≠ k → (V.set k R).getD i nilv = V.getD i nilv := fun i e => by simp [List.getD_eq_getElem?_getD, List.getElem?_set_ne (Ne.symm e)]
  refine ⟨⟨?_, by rw [List.length_set]; exact h.len, fun i hi => ?_, h.low, fun i j hi hj hij q => ?_⟩, (hk5.mono (fun x hx => by simp at hx; subst hx; simp) (Nat.le_refl _)).trans (KT.of_keeps hks (fun q _ e => by subst e; exact ⟨h.low, _, _, _, hd, by simp⟩) (Nat.le_of_lt (Nat.lt_of_le_of_lt h.low (Array.getElem?_eq_some_iff.1 hd).1)))⟩
  · rw [heap_setCell_same _ _ _ _ _ _ hd]
    simp
  · by_cases e : i = k
    · subst e
      refine ⟨VV', ?_, ?_⟩
      · rw [if_pos rfl, show (V.set i R).getD i nilv = R by simp [List.getD_eq_getElem?_getD, h.len, hi]]
        exact owns_by ho fun q hq => by
          obtain ⟨cur, hc⟩ := owns_ty ho q hq
          exact hks.block q (World.ownsRow.lt ho q hq).2 (ne hc (by decide))
      · rw [if_pos rfl]
        exact ⟨hx.1, fun r y hy => by
          obtain ⟨v, hv, hr⟩ := hx.2 r y hy
          exact ⟨v, hv, hr.keeps hks nx⟩⟩
    · obtain ⟨VV, ho2, hx2, hr2⟩ := h.rows i hi
      rw [if_neg e, show (V.set k R).getD i nilv = V.getD i nilv by simp [List.getD_eq_getElem?_getD, List.getElem?_set_ne (Ne.symm e)]]
      have ho3 : w5.ownsRow base 32 1 (V.getD i nilv) (M i).length VV := owns_by ho2 fun q hq => hoth i hi e q hq
      refine ⟨VV, owns_by ho3 fun q hq => ?_, hx2, fun r y hy => ?_⟩
      · obtain ⟨cur, hc⟩ := owns_ty ho3 q hq
        exact hks.block q (World.ownsRow.lt ho3 q hq).2 (ne hc (by decide))
      · obtain ⟨v, hv, hr⟩ := hr2 r y hy
        have hr5 : RowX w5 b bn bd v y := hr.keeps hk5.keeps (fun g cs t e ht _ _ _ => by
          rintro ⟨cs', t', fr', e', ht'⟩
          rw [e] at e'
          simp only [Option.some.injEq, Obj.cells.injEq] at e'
          rw [← e'.2.1] at ht'
          simp only [List.mem_singleton] at ht'
          rcases ht with rfl | rfl <;> exact absurd ht' (by decide))
        exact ⟨v, hv, hr5.keeps hks nx⟩
  · by_cases e : i = k
    · subst e
      rw [vk, vo j (Ne.symm hij)]
      intro hq h2
      obtain ⟨VJ, hoj, _⟩ := h.rows j hj
      rcases hR q hq with h3 | h3
      · exact h.apart i j hi hj hij q h3 h2
      · have := (World.ownsRow.lt hoj q h2).2; omega
    · rw [vo i e]
      by_cases e2 : j = k
      · subst e2
        rw [vk]
        intro hq h2
        obtain ⟨VI, hoi, _⟩ := h.rows i hi
        rcases hR q h2 with h3 | h3
        · exact h.apart i j hi hj hij q hq h3
        · have := (World.ownsRow.lt hoi q hq).2; omega
      · rw [vo j e2]
        exact h.apart i j hi hj hij q

theorem row_own {w : World} {base b bn bd : Nat} {v : Value} {l : List UInt8} (h : Own w base v l) (hl : l.length = 128) (h1 : b < base) (h2 : bn < base) (h3 : bd < base) : RowX w b bn bd v l := by
  refine ⟨h.rd, hl, ?_⟩
  rcases h.2 with ⟨_, hn⟩ | ⟨g, cap, cur, rfl, hb, hg, _⟩
  · omega
  · exact ⟨g, cap, cur, _, by rw [hl], hg, .inl rfl, by omega, by omega, by omega⟩

end Go.Proofs.Ytbagpckiegpalaa
