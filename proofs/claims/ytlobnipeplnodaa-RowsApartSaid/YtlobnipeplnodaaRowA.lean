/-
  No cell is two jobs', plainly; the law's two maps.
-/
import Derived.Test.YtlobnipeplnodaaRowF
import Derived.Test.YtlobnipeplnodaaMapP
namespace Go.Proofs.Ytlobnipeplnodaa
open Go.RowKit Go.Shelf
set_option linter.unusedVariables false

theorem flat_nodup {α β : Type} (f : α → List β) : ∀ l : List α, l.Nodup → (∀ a ∈ l, (f a).Nodup) → (∀ a ∈ l, ∀ b ∈ l, ∀ y, y ∈ f a → y ∈ f b → a = b) → (l.flatMap f).Nodup
  | [], _, _, _ => by simp
  | a :: l, h1, h2, h3 => by
    rw [List.nodup_cons] at h1
    rw [List.flatMap_cons]
    refine List.nodup_append.2 ⟨h2 a (by simp), flat_nodup f l h1.2 (fun b hb => h2 b (by simp [hb])) (fun b hb c hc => h3 b (by simp [hb]) c (by simp [hc])), ?_⟩
    intro x hx y hy
    rintro rfl
    obtain ⟨b, hb, hy⟩ := List.mem_flatMap.1 hy
    have := h3 a (by simp) b (by simp [hb]) x hx hy
    subst this
    exact h1.1 hb

theorem flat_len {α β : Type} (f : α → List β) (k : Nat) : ∀ l : List α, (∀ a ∈ l, (f a).length ≤ k) → (l.flatMap f).length ≤ l.length * k
  | [], _ => by simp
  | a :: l, h => by
    rw [List.flatMap_cons, List.length_append, List.length_cons, Nat.succ_mul]
    have := h a (by simp)
    have := flat_len f k l (fun b hb => h b (by simp [hb]))
    omega

theorem jobs_nodup' {ws : List Nat} {c : Nat} {m : Mx} (h : Built ws c m) : m.jobs.Nodup := by
  unfold Mx.jobs rising
  rw [(List.mergeSort_perm _ _).nodup_iff]
  unfold Mx.upTo
  refine flat_nodup _ _ List.nodup_range (fun i _ => m.row_nodup i) (fun i hi i' hi' j h1 h2 => ?_)
  rw [List.mem_range] at hi hi'
  have e1 := (h.row_where hi h1).1
  have e2 := (h.row_where hi' h2).1
  rw [e1] at e2
  exact Option.some.inj e2

/-- A job's cells. -/
def Mx.spots (m : Mx) (j : Nat) : List (Nat × Nat) := match m.where j with
  | none => []
  | some i => (m.own i j).map fun x => (i, x)
theorem Mx.spots_of {m : Mx} {j i : Nat} (h : m.where j = some i) : m.spots j = (m.own i j).map fun x => (i, x) := by unfold Mx.spots; rw [h]
theorem spots_c {m : Mx} {j i x : Nat} (h : (i, x) ∈ m.spots j) : m.c (16 * i + x) = j := by
  unfold Mx.spots at h
  split at h
  · cases h
  · obtain ⟨y, hy, e⟩ := List.mem_map.1 h
    cases e
    exact (own_mem.1 hy).2
theorem spots_nodup {ws : List Nat} {c : Nat} {m : Mx} (h : Built ws c m) : (m.jobs.flatMap m.spots).Nodup := by
  refine flat_nodup _ _ (jobs_nodup' h) (fun j hj => ?_) (fun j _ j' _ p h1 h2 => by obtain ⟨i, x⟩ := p; exact (spots_c h1).symm.trans (spots_c h2))
  obtain ⟨i, hi⟩ := jobs_where h j hj
  rw [Mx.spots_of hi]
  have := m.own_nodup i j
  refine List.Pairwise.map _ (fun a b hab e => hab ?_) this
  exact (Prod.mk.inj e).2

structure ApartAt (w : World) (b bm : Nat) (m : Mx) (v : Value) (J : List Nat) (P : List (Nat × Nat)) (wr : World) : Prop where
  mx : MxAt wr b m
  st : ∃ S : Value → Bool, SetP 64 4 wr bm P.length S ∧ ∀ r x : Nat, S (pairV r x) = decide ((r, x) ∈ P)
  ls : wr.ownsRow (bm + 1) 33 1 v J.length (J.map uv)
  be : Below w.heap.size w wr
  or : w.heap.size ≤ b ∧ b < bm ∧ bm < wr.heap.size

theorem ApartAt.below {w wr w' : World} {b bm : Nat} {m : Mx} {v : Value} {J : List Nat} {P : List (Nat × Nat)} (h : ApartAt w b bm m v J P wr) (hb : Below wr.heap.size wr w') : ApartAt w b bm m v J P w' := by
  obtain ⟨S, hS, hSe⟩ := h.st
  have ho := h.or
  exact ⟨h.mx.below hb h.mx.lt, ⟨S, hS.block (hb.block bm (by omega)), hSe⟩, owns_below h.ls hb, h.be.trans (hb.mono h.be.size), ⟨ho.1, ho.2.1, by have := hb.size; omega⟩⟩

theorem ApartAt.put {w wr w' : World} {b bm : Nat} {m : Mx} {v : Value} {J : List Nat} {P : List (Nat × Nat)} (h : ApartAt w b bm m v J P wr) (r x : Nat) (S S2 : Value → Bool) (hSe : ∀ r x : Nat, S (pairV r x) = decide ((r, x) ∈ P))
    (hS2 : S2 (pairV r x) = true) (hS3 : ∀ y, y ≠ pairV r x → S2 y = S y) (hs : SetP 64 4 w' bm (P.length + 1) S2) (hg : wr.grownBy w' (some bm)) : ApartAt w b bm m v J (P ++ [(r, x)]) w' := by
  have k := Keeps.of_grown hg
  have ho := h.or
  refine ⟨h.mx.block (k.block b h.mx.lt (by intro e; have := Option.some.inj e; omega)), ⟨S2, by rw [List.length_append]; exact hs, fun r' x' => ?_⟩, owns_by h.ls fun q hq => k.block q (World.ownsRow.lt h.ls q hq).2 (by have := (World.ownsRow.lt h.ls q hq).1; intro e; have e2 := Option.some.inj e; omega), h.be.trans (k.below h.be.size (fun i hi => by have := Option.some.inj hi; omega)), ⟨ho.1, ho.2.1, by have := k.size; omega⟩⟩
  by_cases e : r' = r ∧ x' = x
  · rw [e.1, e.2, hS2]; simp
  · rw [hS3 _ (fun e2 => e (pairV_inj e2)), hSe]
    simp only [List.mem_append, List.mem_singleton, Prod.mk.injEq, e, or_false]

structure UsedAt (w : World) (b bm : Nat) (m : Mx) (v : Value) (L tl : List Nat) (wr : World) : Prop where
  mx : MxAt wr b m
  st : ∃ S : Int → Bool, SetAt 3 4 .i64 wr bm tl.length S ∧ ∀ x : Nat, S (x : Int) = decide (x ∈ tl)
  ls : wr.ownsRow (bm + 1) 33 1 v L.length (L.map uv)
  be : Below w.heap.size w wr
  or : w.heap.size ≤ b ∧ b < bm ∧ bm < wr.heap.size

theorem UsedAt.below {w wr w' : World} {b bm : Nat} {m : Mx} {v : Value} {L tl : List Nat} (h : UsedAt w b bm m v L tl wr) (hb : Below wr.heap.size wr w') : UsedAt w b bm m v L tl w' := by
  obtain ⟨S, hS, hSe⟩ := h.st
  have ho := h.or
  exact ⟨h.mx.below hb h.mx.lt, ⟨S, hS.block (hb.block bm (by omega)), hSe⟩, owns_below h.ls hb, h.be.trans (hb.mono h.be.size), ⟨ho.1, ho.2.1, by have := hb.size; omega⟩⟩

theorem UsedAt.put {w wr w' : World} {b bm : Nat} {m : Mx} {v : Value} {L tl : List Nat} (h : UsedAt w b bm m v L tl wr) (x : Nat) (S : Int → Bool) (hSe : ∀ x : Nat, S (x : Int) = decide (x ∈ tl))
    (hs : SetAt 3 4 .i64 w' bm (tl.length + 1) (fun y => if y = (x : Int) then true else S y)) (hg : wr.grownBy w' (some bm)) : UsedAt w b bm m v L (tl ++ [x]) w' := by
  have k := Keeps.of_grown hg
  have ho := h.or
  refine ⟨h.mx.block (k.block b h.mx.lt (by intro e; have := Option.some.inj e; omega)), ⟨_, by rw [List.length_append]; exact hs, fun x' => ?_⟩, owns_by h.ls fun q hq => k.block q (World.ownsRow.lt h.ls q hq).2 (by have := (World.ownsRow.lt h.ls q hq).1; intro e; have e2 := Option.some.inj e; omega), h.be.trans (k.below h.be.size (fun i hi => by have := Option.some.inj hi; omega)), ⟨ho.1, ho.2.1, by have := k.size; omega⟩⟩
  show (if (x' : Int) = (x : Int) then true else S (x' : Int)) = _
  by_cases e : x' = x
  · subst e; simp
  · rw [if_neg (by omega), hSe]
    simp [e]

end Go.Proofs.Ytlobnipeplnodaa
