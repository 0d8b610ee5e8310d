/-
  Heaps beside each other: Push whatever it answers; what lies apart; the first of all of two heaps.
-/
import Derived.Test.YtbcpcoknlcocdaaPrP
import Derived.Test.YtbcpcoknlcocdaaPrI
import Derived.Test.YtbcpcoknlcocdaaPrB
namespace Go.Proofs.Ytbcpcoknlcocdaa
open Go.RowKit Go.ChangeMaps
set_option linter.unusedVariables false

theorem RwAt.hl {w : World} {lo b : Nat} {v : Value} {m : Nat} {q : List It} (h : RwAt w lo b v m q) {k : Nat} (hk : Hb b m v k) : k < w.heap.size := by
  rcases hk with rfl | rfl | e
  · exact h.lt
  · exact h.mp.lt
  · exact (World.ownsRow.lt h.own k e).2
/-- Two heaps have no block in common. -/
def Ap (b m : Nat) (v : Value) (b' m' : Nat) (v' : Value) : Prop := ∀ k, Hb b m v k → ¬ Hb b' m' v' k
theorem Ap.symm {b m : Nat} {v : Value} {b' m' : Nat} {v' : Value} (h : Ap b m v b' m' v') : Ap b' m' v' b m v := fun k h1 h2 => h k h2 h1
theorem Ap.grow {w : World} {lo b m : Nat} {v : Value} {q : List It} {b' m' : Nat} {v' v'' : Value} (h : Ap b m v b' m' v') (hR : RwAt w lo b v m q) (ho : ∀ k, v''.ownBlock = some k → v'.ownBlock = some k ∨ w.heap.size ≤ k) : Ap b m v b' m' v'' := by
  intro k h1 h2
  rcases h2 with e | e | e
  · exact h k h1 (.inl e)
  · exact h k h1 (.inr (.inl e))
  · rcases ho k e with e | e
    · exact h k h1 (.inr (.inr e))
    · have := hR.hl h1; omega
theorem Ap.new {w : World} {lo b m : Nat} {v : Value} {q : List It} {b' m' : Nat} (hR : RwAt w lo b v m q) (hb : w.heap.size ≤ b') (hm : w.heap.size ≤ m') : Ap b m v b' m' (.slice none 0 0) := by
  intro k h1 h2
  have := hR.hl h1
  rcases h2 with e | e | e
  · omega
  · omega
  · cases e

/-- What a Push leaves of a heap's items. -/
def Psh (q : List It) (x : It) (q' : List It) : Prop := ((∃ y ∈ q, y.1 = x.1) ∧ q' = q) ∨ ((∀ y ∈ q, y.1 ≠ x.1) ∧ q'.Perm (x :: q))
theorem Psh.len {q q' : List It} {x : It} (h : Psh q x q') : q'.length ≤ q.length + 1 := by
  rcases h with ⟨_, rfl⟩ | ⟨_, h⟩
  · omega
  · have := h.length_eq; simp at this; omega
theorem Psh.perm {q1 q2 q1' q2' : List It} {x : It} (hp : q2.Perm q1) (h1 : Psh q1 x q1') (h2 : Psh q2 x q2') : q2'.Perm q1' := by
  rcases h1 with ⟨⟨y, hy, e⟩, rfl⟩ | ⟨ha, h1⟩
  · rcases h2 with ⟨_, rfl⟩ | ⟨hb, _⟩
    · exact hp
    · exact absurd e (hb y (hp.mem_iff.2 hy))
  · rcases h2 with ⟨⟨y, hy, e⟩, _⟩ | ⟨_, h2⟩
    · exact absurd e (ha y (hp.mem_iff.1 hy))
    · exact h2.trans ((hp.cons x).trans h1.symm)
theorem Psh.other {a q2 q3 q2' q3' : List It} {x : It} (hp : q2.Perm (a ++ q3)) (ha : ∀ y ∈ a, y.1 ≠ x.1) (h3 : Psh q3 x q3') (h2 : Psh q2 x q2') : q2'.Perm (a ++ q3') := by
  rcases h3 with ⟨⟨y, hy, e⟩, rfl⟩ | ⟨hb, h3⟩
  · rcases h2 with ⟨_, rfl⟩ | ⟨hc, _⟩
    · exact hp
    · exact absurd e (hc y (hp.mem_iff.2 (List.mem_append_right _ hy)))
  · rcases h2 with ⟨⟨y, hy, e⟩, _⟩ | ⟨_, h2⟩
    · rcases List.mem_append.1 (hp.mem_iff.1 hy) with h | h
      · exact absurd e (ha y h)
      · exact absurd e (hb y h)
    · exact h2.trans ((hp.cons x).trans ((List.perm_middle (l₁ := a) (l₂ := q3) (a := x)).symm.trans (h3.symm.append_left a)))

theorem push_try (w : World) (lo b m : Nat) (v : Value) (q : List It) (x : It) (h : RwAt w lo b v m q) (hh : HeapN q q.length) (hx : kw x.1) (hl : q.length < 10000) :
    Calls Try.prog 10 #[.pointer (some ⟨b, 0, none⟩), itv x] w fun e w' => ∃ (r : Int) (v' : Value) (q' : List It), e = .returned (.int .i64 r) ∧ RwAt w' lo b v' m q' ∧ HeapN q' q'.length ∧ Keeps (Hb b m v) w w' ∧ (∀ k, v'.ownBlock = some k → v.ownBlock = some k ∨ w.heap.size ≤ k) ∧ Psh q x q' := by
  by_cases hn : plc q x.1 = none
  · refine (push11_yes w lo b m v q x h hh hx hn hl (by have := h.lt; have := h.lob; omega)).mono ?_
    rintro e w' ⟨rfl, v', q', h1, h2, h3, h4, h5⟩
    exact ⟨0, v', q', rfl, h1, h2, h4, h5, .inr ⟨plc_none.1 hn, h3⟩⟩
  · refine (push11_no w lo b m v q x h hx (by cases e : plc q x.1 with | none => exact absurd e hn | some _ => rfl)).mono ?_
    rintro e w' ⟨rfl, hb⟩
    exact ⟨7, v, q, rfl, h.below hb, hh, Keeps.of_below (S := Hb b m v) hb (fun i hi hge => absurd hi (by omega)), fun k hk => .inl hk, .inl ⟨by
      have h1 : (plc q x.1).isSome = true := by cases e : plc q x.1 with | none => exact absurd e hn | some _ => rfl
      exact plc_mem.1 h1, rfl⟩⟩

/-- A heap where it lies, in order. -/
structure Hp (w : World) (b m : Nat) (v : Value) (q : List It) : Prop where
  r : RwAt w m b v m q
  h : HeapN q q.length
theorem Hp.below {w w' : World} {b m : Nat} {v : Value} {q : List It} (h : Hp w b m v q) (hb : Below w.heap.size w w') : Hp w' b m v q := ⟨h.r.below hb, h.h⟩
theorem Hp.keeps {S : Nat → Prop} {w w' : World} {b m : Nat} {v : Value} {q : List It} (h : Hp w b m v q) (hk : Keeps S w w') (hS : ∀ k, Hb b m v k → ¬ S k) : Hp w' b m v q := ⟨h.r.keeps hk hS, h.h⟩
theorem Hp.aside {w w' : World} {b m : Nat} {v : Value} {q : List It} {b' m' : Nat} {v' : Value} (h : Hp w b m v q) (ha : Ap b m v b' m' v') (hk : Keeps (Hb b' m' v') w w') : Hp w' b m v q := h.keeps hk ha
theorem Hp.below_of {w w' a : World} {lo b m : Nat} {v : Value} {q : List It} (h : Hp w b m v q) (hk : Keeps (Hb b m v) w w') (hl : lo ≤ m) (ha : Below lo a w) (hs : lo ≤ w.heap.size) : Below lo a w' :=
  ha.trans (hk.lo hs fun k hk => Nat.le_trans hl (h.r.hb k hk))
theorem Hp.not_new {w : World} {b m : Nat} {v : Value} {q : List It} (h : Hp w b m v q) {g : Nat} (hg : w.heap.size ≤ g) : ¬ Hb b m v g := fun e => by have := h.r.hl e; omega
theorem Hp.push {w : World} {b m : Nat} {v : Value} {q : List It} (h : Hp w b m v q) (x : It) (hx : kw x.1) (hl : q.length < 10000) :
    Calls Try.prog 10 #[.pointer (some ⟨b, 0, none⟩), itv x] w fun e w' => ∃ (r : Int) (v' : Value) (q' : List It), e = .returned (.int .i64 r) ∧ Hp w' b m v' q' ∧ Keeps (Hb b m v) w w' ∧ (∀ k, v'.ownBlock = some k → v.ownBlock = some k ∨ w.heap.size ≤ k) ∧ Psh q x q' := by
  refine (push_try w m b m v q x h.r h.h hx hl).mono ?_
  rintro e w' ⟨r, v', q', e1, h1, h2, h3, h4, h5⟩
  exact ⟨r, v', q', e1, ⟨h1, h2⟩, h3, h4, h5⟩

/-- Two heaps of a law's own, beside each other. -/
structure Two (w0 w : World) (b1 m1 : Nat) (v1 : Value) (q1 : List It) (b2 m2 : Nat) (v2 : Value) (q2 : List It) : Prop where
  h1 : Hp w b1 m1 v1 q1
  h2 : Hp w b2 m2 v2 q2
  ap : Ap b1 m1 v1 b2 m2 v2
  bel : Below w0.heap.size w0 w
  l1 : w0.heap.size ≤ m1
  l2 : w0.heap.size ≤ m2
section
variable {w0 w w' : World} {b1 m1 : Nat} {v1 : Value} {q1 : List It} {b2 m2 : Nat} {v2 : Value} {q2 : List It} {b3 m3 : Nat} {v3 : Value} {q3 : List It}
theorem Two.symm (h : Two w0 w b1 m1 v1 q1 b2 m2 v2 q2) : Two w0 w b2 m2 v2 q2 b1 m1 v1 q1 := ⟨h.h2, h.h1, h.ap.symm, h.bel, h.l2, h.l1⟩
theorem Two.below (h : Two w0 w b1 m1 v1 q1 b2 m2 v2 q2) (hb : Below w.heap.size w w') : Two w0 w' b1 m1 v1 q1 b2 m2 v2 q2 :=
  ⟨h.h1.below hb, h.h2.below hb, h.ap, h.bel.trans (hb.mono h.bel.size), h.l1, h.l2⟩
theorem Two.first {v : Value} {q : List It} (h : Two w0 w b1 m1 v1 q1 b2 m2 v2 q2) (hp : Hp w' b1 m1 v q) (hk : Keeps (Hb b1 m1 v1) w w') (ho : ∀ k, v.ownBlock = some k → v1.ownBlock = some k ∨ w.heap.size ≤ k) : Two w0 w' b1 m1 v q b2 m2 v2 q2 :=
  ⟨hp, h.h2.aside h.ap.symm hk, (h.ap.symm.grow h.h2.r ho).symm, h.h1.below_of hk h.l1 h.bel h.bel.size, h.l1, h.l2⟩
theorem Two.second {v : Value} {q : List It} (h : Two w0 w b1 m1 v1 q1 b2 m2 v2 q2) (hp : Hp w' b2 m2 v q) (hk : Keeps (Hb b2 m2 v2) w w') (ho : ∀ k, v.ownBlock = some k → v2.ownBlock = some k ∨ w.heap.size ≤ k) : Two w0 w' b1 m1 v1 q1 b2 m2 v q :=
  (h.symm.first hp hk ho).symm
/-- Three of them. -/
structure Three (w0 w : World) (b1 m1 : Nat) (v1 : Value) (q1 : List It) (b2 m2 : Nat) (v2 : Value) (q2 : List It) (b3 m3 : Nat) (v3 : Value) (q3 : List It) : Prop where
  t : Two w0 w b1 m1 v1 q1 b2 m2 v2 q2
  h3 : Hp w b3 m3 v3 q3
  a1 : Ap b1 m1 v1 b3 m3 v3
  a2 : Ap b2 m2 v2 b3 m3 v3
  l3 : w0.heap.size ≤ m3
theorem Three.below (h : Three w0 w b1 m1 v1 q1 b2 m2 v2 q2 b3 m3 v3 q3) (hb : Below w.heap.size w w') : Three w0 w' b1 m1 v1 q1 b2 m2 v2 q2 b3 m3 v3 q3 := ⟨h.t.below hb, h.h3.below hb, h.a1, h.a2, h.l3⟩
theorem Three.first {v : Value} {q : List It} (h : Three w0 w b1 m1 v1 q1 b2 m2 v2 q2 b3 m3 v3 q3) (hp : Hp w' b1 m1 v q) (hk : Keeps (Hb b1 m1 v1) w w') (ho : ∀ k, v.ownBlock = some k → v1.ownBlock = some k ∨ w.heap.size ≤ k) : Three w0 w' b1 m1 v q b2 m2 v2 q2 b3 m3 v3 q3 :=
  ⟨h.t.first hp hk ho, h.h3.aside h.a1.symm hk, (h.a1.symm.grow h.h3.r ho).symm, h.a2, h.l3⟩
theorem Three.second {v : Value} {q : List It} (h : Three w0 w b1 m1 v1 q1 b2 m2 v2 q2 b3 m3 v3 q3) (hp : Hp w' b2 m2 v q) (hk : Keeps (Hb b2 m2 v2) w w') (ho : ∀ k, v.ownBlock = some k → v2.ownBlock = some k ∨ w.heap.size ≤ k) : Three w0 w' b1 m1 v1 q1 b2 m2 v q b3 m3 v3 q3 :=
  ⟨h.t.second hp hk ho, h.h3.aside h.a2.symm hk, h.a1, (h.a2.symm.grow h.h3.r ho).symm, h.l3⟩
theorem Three.third {v : Value} {q : List It} (h : Three w0 w b1 m1 v1 q1 b2 m2 v2 q2 b3 m3 v3 q3) (hp : Hp w' b3 m3 v q) (hk : Keeps (Hb b3 m3 v3) w w') (ho : ∀ k, v.ownBlock = some k → v3.ownBlock = some k ∨ w.heap.size ≤ k) : Three w0 w' b1 m1 v1 q1 b2 m2 v2 q2 b3 m3 v q :=
  ⟨⟨h.t.h1.aside h.a1 hk, h.t.h2.aside h.a2 hk, h.t.ap, h.h3.below_of hk h.l3 h.t.bel h.t.bel.size, h.t.l1, h.t.l2⟩, hp, h.a1.grow h.t.h1.r ho, h.a2.grow h.t.h2.r ho, h.l3⟩
theorem Hb.own {b m : Nat} {v v' : Value} {k : Nat} (h : Hb b m v' k) (ho : v'.ownBlock = v.ownBlock) : Hb b m v k := by
  rcases h with h | h | h
  · exact .inl h
  · exact .inr (.inl h)
  · exact .inr (.inr (by rw [← ho]; exact h))
theorem Three.box {g : Nat} (h : Three w0 w b1 m1 v1 q1 b2 m2 v2 q2 b3 m3 v3 q3) (hk : Keeps (fun k => k = g) w w') (hg : w0.heap.size ≤ g) (n1 : ¬ Hb b1 m1 v1 g) (n2 : ¬ Hb b2 m2 v2 g) (n3 : ¬ Hb b3 m3 v3 g) : Three w0 w' b1 m1 v1 q1 b2 m2 v2 q2 b3 m3 v3 q3 :=
  ⟨⟨h.t.h1.keeps hk (fun k hb e => n1 (e ▸ hb)), h.t.h2.keeps hk (fun k hb e => n2 (e ▸ hb)), h.t.ap, h.t.bel.trans (hk.lo h.t.bel.size fun k e => e ▸ hg), h.t.l1, h.t.l2⟩, h.h3.keeps hk (fun k hb e => n3 (e ▸ hb)), h.a1, h.a2, h.l3⟩
end

theorem root_min {q : List It} (h : HeapN q q.length) : ∀ t ∈ q, ¬ Bef t (it q 0) := by
  intro t ht
  obtain ⟨k, hk⟩ := List.mem_iff_getElem?.1 ht
  have := h.root k (List.getElem?_eq_some_iff.1 hk).1
  rwa [it_get hk] at this
theorem it0_mem {q : List It} (h : q ≠ []) : it q 0 ∈ q := it_mem (List.length_pos_iff.2 h)
theorem merge_l {q1 q2 q3 : List It} (hp : q2.Perm (q1 ++ q3)) (h1 : HeapN q1 q1.length) (h2 : HeapN q2 q2.length) (h3 : HeapN q3 q3.length) (hn : q1 ≠ []) (hc : q3 = [] ∨ Bef (it q1 0) (it q3 0)) : it q2 0 = it q1 0 := by
  have hm : it q1 0 ∈ q2 := hp.mem_iff.2 (List.mem_append_left _ (it0_mem hn))
  have hn2 : q2 ≠ [] := by rintro rfl; cases hm
  refine bef_eq ?_ (root_min h2 _ hm)
  rcases List.mem_append.1 (hp.mem_iff.1 (it0_mem hn2)) with h | h
  · exact root_min h1 _ h
  · rcases hc with rfl | hc
    · cases h
    · exact fun hb => root_min h3 _ h (bef_trans hb hc)
theorem merge_r {q1 q2 q3 : List It} (hp : q2.Perm (q1 ++ q3)) (h1 : HeapN q1 q1.length) (h2 : HeapN q2 q2.length) (h3 : HeapN q3 q3.length) (hn : q3 ≠ []) (hc : q1 = [] ∨ ¬ Bef (it q1 0) (it q3 0)) : it q2 0 = it q3 0 := by
  have hm : it q3 0 ∈ q2 := hp.mem_iff.2 (List.mem_append_right _ (it0_mem hn))
  have hn2 : q2 ≠ [] := by rintro rfl; cases hm
  refine bef_eq ?_ (root_min h2 _ hm)
  rcases List.mem_append.1 (hp.mem_iff.1 (it0_mem hn2)) with h | h
  · rcases hc with rfl | hc
    · cases h
    · exact bef_neg (root_min h1 _ h) hc
  · exact root_min h3 _ h
theorem merge_dl {q1 q2 q3 q1' q2' : List It} {x : It} (hp : q2.Perm (q1 ++ q3)) (h1 : (x :: q1').Perm q1) (h2 : (x :: q2').Perm q2) : q2'.Perm (q1' ++ q3) :=
  List.Perm.cons_inv (h2.trans (hp.trans (h1.symm.append_right q3)))
theorem merge_dr {q1 q2 q3 q3' q2' : List It} {x : It} (hp : q2.Perm (q1 ++ q3)) (h3 : (x :: q3').Perm q3) (h2 : (x :: q2').Perm q2) : q2'.Perm (q1 ++ q3') :=
  List.Perm.cons_inv (h2.trans (hp.trans ((h3.symm.append_left q1).trans List.perm_middle)))

end Go.Proofs.Ytbcpcoknlcocdaa
