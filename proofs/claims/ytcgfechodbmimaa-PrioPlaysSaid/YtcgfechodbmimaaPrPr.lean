/-
  PrioPlays: Remove and Change beside the document's.
-/
import Derived.Test.YtcgfechodbmimaaPrPq
namespace Go.Proofs.Ytcgfechodbmimaa
open Go.RowKit Go.ChangeMaps
set_option linter.unusedVariables false
set_option linter.unusedSimpArgs false

/-- The list without its j-th. -/
def wo (l : List It) (j : Nat) : List It := l.take j ++ l.drop (j + 1)

theorem wo_perm {l : List It} {j : Nat} (hj : j < l.length) : (it l j :: wo l j).Perm l := by
  have h1 : l = l.take j ++ it l j :: l.drop (j + 1) := by
    conv => lhs; rw [← List.take_append_drop j l, List.drop_eq_getElem_cons hj]
    rw [show l[j] = it l j from by have := it_some hj; rw [List.getElem?_eq_getElem hj] at this; exact Option.some.inj this]
  conv => rhs; rw [h1]
  exact List.perm_middle.symm

theorem wo_sorted {l : List It} {j : Nat} (h : l.Pairwise Bef) : (wo l j).Pairwise Bef := by
  unfold wo
  rw [← List.eraseIdx_eq_take_drop_succ]
  exact h.sublist (List.eraseIdx_sublist ..)

theorem it_same {q : List It} {z : Int} {k j : Nat} (hi : IdsApart q) (hk : plc q z = some k) (hj : plc (inOrder q) z = some j) : it (inOrder q) j = it q k := by
  have hi2 : IdsApart (inOrder q) := hi.perm (inOrder_perm q).symm
  obtain ⟨h1, h2⟩ := (plc_some hi2).1 hj
  obtain ⟨t, ht⟩ := List.getElem?_of_mem ((inOrder_perm q).mem_iff.1 (it_mem h1))
  have htl := (List.getElem?_eq_some_iff.1 ht).1
  have e := it_get ht
  have h3 : plc q z = some t := (plc_some hi).2 ⟨htl, by rw [e]; exact h2⟩
  rw [hk] at h3
  cases h3
  exact e.symm

theorem wo_rest {q q' : List It} {z : Int} {k j : Nat} (hi : IdsApart q) (hk : plc q z = some k) (hj : plc (inOrder q) z = some j) (hp : (it q k :: q').Perm q) : (wo (inOrder q) j).Perm q' := by
  have hi2 : IdsApart (inOrder q) := hi.perm (inOrder_perm q).symm
  have h1 := wo_perm ((plc_some hi2).1 hj).1
  rw [it_same hi hk hj] at h1
  exact List.Perm.cons_inv (h1.trans ((inOrder_perm q).trans hp.symm))

theorem wo_not {l : List It} {z : Int} {j : Nat} (hi : IdsApart l) (hj : plc l z = some j) : plc (wo l j) z = none := by
  obtain ⟨h1, h2⟩ := (plc_some hi).1 hj
  have h3 : IdsApart (it l j :: wo l j) := hi.perm (wo_perm h1).symm
  unfold IdsApart at h3
  rw [List.map_cons, List.nodup_cons] at h3
  refine plc_none.2 fun x hx e => h3.1 ?_
  rw [h2, ← e]
  exact List.mem_map_of_mem hx

theorem hb_old {w : World} {lo b m : Nat} {v : Value} {q : List It} (h2 : RwAt w lo b v m q) : ∀ k, w.heap.size ≤ k → ¬ Hb b m v k := by
  rintro k hk (e | e | e)
  · have := h2.lt; omega
  · have := h2.mp.lt; omega
  · have := (World.ownsRow.lt h2.own k e).2; omega

/-- REMOVE, the document's first. -/
theorem pp_remove (w : World) (base K : Nat) (hp : Option Addr) (u : Value) (l : List It) (z : Int) (h : PP w base false hp u l K) (hx : kw z) (hK : K ≤ 1000) :
    Calls Try.prog 10 #[u, .int .u32 z] w fun e w1 => ∃ u1 e1, e = .returned (.tuple #[u1, .int .i64 e1]) ∧ Below w.heap.size w w1 ∧
      ∀ w2, Below w1.heap.size w1 w2 → Calls Try.prog 11 #[.pointer hp, .int .u32 z] w2 fun e w3 => e = .returned (.int .i64 e1) ∧ (∃ l3, PP w3 base false hp u1 l3 K) ∧ Below base w2 w3 ∧ Kop w2 w3 := by
  obtain ⟨lo, b, m, v, q, rfl, h2, h3, rfl, h5, h6, h7⟩ := h.real
  cases hpl : plc q z with
  | none =>
    refine Calls.mono (rremove_no w _ u (inOrder q) z h5 (plc_inOrder hpl)) ?_
    rintro e w1 ⟨rfl, hb⟩
    refine ⟨u, 6, rfl, hb, fun w2 hb2 => ?_⟩
    have hr2 := (h2.below hb).below hb2
    refine Calls.mono (remove11_no w2 lo b m v q z hr2 hx hpl) ?_
    rintro e w3 ⟨rfl, rfl⟩
    exact ⟨rfl, ⟨inOrder q, PP.mk hr2 h3 rfl ((h5.below hb).below hb2) h6 h7⟩, Below.refl _ _, Kop.refl _⟩
  | some k =>
    obtain ⟨j, hj⟩ := plc_inOrder' hpl
    have hi2 : IdsApart (inOrder q) := h2.ids.perm (inOrder_perm q).symm
    refine Calls.mono (rremove_yes w _ u (inOrder q) z j h5 (by rw [inOrder_len]; omega) hj ((plc_some hi2).1 hj).1) ?_
    rintro e w1 ⟨u1, rfl, ho, hb⟩
    refine ⟨u1, 0, rfl, hb, fun w2 hb2 => ?_⟩
    have hr2 := (h2.below hb).below hb2
    have hlo2 := hr2.lob
    have hlt2 := hr2.lt
    refine Calls.mono (remove11_yes w2 lo b m v q z k hr2 h3 hx hpl) ?_
    rintro e w3 ⟨rfl, v3, q3, hr3, hh3, hp3, hk3, ho3⟩
    have hrd : RdL w2 (Hb b m v) u1 (wo (inOrder q) j) := RdL.of_own (owns_below ho hb2) (hb_old h2)
    have hrd3 := (hrd.keeps hk3 (fun k _ h => h)).set (T := Hb b m v3) (fun k _ h => by unfold Hb at *; rw [ho3] at h; exact h)
    have hi : wo (inOrder q) j = inOrder q3 := List.Perm.eq_of_pairwise (le := Bef) (fun a b _ _ h1 h2 => absurd h2 (bef_asym h1)) (wo_sorted (inOrder_sorted q h2.ids)) (inOrder_sorted q3 hr3.ids) ((wo_rest h2.ids hpl hj hp3).trans (inOrder_perm q3).symm)
    have hl3 := hp3.length_eq
    rw [List.length_cons] at hl3
    exact ⟨rfl, ⟨_, PP.mk hr3 hh3 hi hrd3 h6 (by omega)⟩, below_of_keeps hk3 (by omega) (fun k hk => Nat.le_trans h6 (hr2.hb k hk)), kop_keeps hr2 hk3⟩

/-- CHANGE, the document's Remove and Push first. -/
theorem pp_change (w : World) (base K : Nat) (hp : Option Addr) (u : Value) (l : List It) (x : It) (h : PP w base false hp u l K) (hx : kw x.1) (hK : K ≤ 1000) :
    Calls Try.prog 10 #[u, .int .u32 x.1] w fun e w1 => ∃ u1 e1, e = .returned (.tuple #[u1, .int .i64 e1]) ∧ Below w.heap.size w w1 ∧
      ((e1 = 6 ∧ ∀ w2, Below w1.heap.size w1 w2 → Calls Try.prog 12 #[.pointer hp, itv x] w2 fun e w3 => e = .returned (.int .i64 6) ∧ (∃ l3, PP w3 base false hp u1 l3 K) ∧ Below base w2 w3 ∧ Kop w2 w3) ∨
       (e1 = 0 ∧ ∀ w2, Below w1.heap.size w1 w2 → Calls Try.prog 7 #[u1, itv x] w2 fun e w3 => ∃ u2, e = .returned (.tuple #[u2, .int .i64 0]) ∧ Below w2.heap.size w2 w3 ∧
          ∀ w4, Below w3.heap.size w3 w4 → Calls Try.prog 12 #[.pointer hp, itv x] w4 fun e w5 => e = .returned (.int .i64 0) ∧ (∃ l3, PP w5 base false hp u2 l3 K) ∧ Below base w4 w5 ∧ Kop w4 w5)) := by
  obtain ⟨lo, b, m, v, q, rfl, h2, h3, rfl, h5, h6, h7⟩ := h.real
  cases hpl : plc q x.1 with
  | none =>
    refine Calls.mono (rremove_no w _ u (inOrder q) x.1 h5 (plc_inOrder hpl)) ?_
    rintro e w1 ⟨rfl, hb⟩
    refine ⟨u, 6, rfl, hb, .inl ⟨rfl, fun w2 hb2 => ?_⟩⟩
    have hr2 := (h2.below hb).below hb2
    have hlo2 := hr2.lob
    have hlt2 := hr2.lt
    refine Calls.mono (change11_no w2 lo b m v q x hr2 hx hpl) ?_
    rintro e w3 ⟨rfl, hb3⟩
    exact ⟨rfl, ⟨inOrder q, PP.mk (hr2.below hb3) h3 rfl (((h5.below hb).below hb2).below hb3) h6 h7⟩, hb3.mono (by omega), kop_below hb3⟩
  | some k =>
    obtain ⟨j, hj⟩ := plc_inOrder' hpl
    have hi2 : IdsApart (inOrder q) := h2.ids.perm (inOrder_perm q).symm
    have hjl := ((plc_some hi2).1 hj).1
    have hlw : (wo (inOrder q) j).length ≤ q.length := by have := (wo_perm hjl).length_eq; rw [List.length_cons, inOrder_len] at this; omega
    refine Calls.mono (rremove_yes w _ u (inOrder q) x.1 j h5 (by rw [inOrder_len]; omega) hj hjl) ?_
    rintro e w1 ⟨u1, rfl, ho, hb⟩
    refine ⟨u1, 0, rfl, hb, .inr ⟨rfl, fun w2 hb2 => ?_⟩⟩
    have hr2 := (h2.below hb).below hb2
    have hrd : RdL w2 (Hb b m v) u1 (wo (inOrder q) j) := RdL.of_own (owns_below ho hb2) (hb_old h2)
    have hnot := wo_not hi2 hj
    refine Calls.mono (rpush_yes w2 _ u1 _ x hrd (by omega) hnot) ?_
    rintro e w3 ⟨u2, rfl, l2, ho2, hput, hb3⟩
    refine ⟨u2, rfl, hb3, fun w4 hb4 => ?_⟩
    have hr4 := (hr2.below hb3).below hb4
    have hlo4 := hr4.lob
    have hlt4 := hr4.lt
    refine Calls.mono (change11_yes w4 lo b m v q x k hr4 h3 hx hpl) ?_
    rintro e w5 ⟨rfl, q5, hr5, hh5, hp5, hk5⟩
    have hrd2 : RdL w4 (Hb b m v) u2 l2 := RdL.of_own (owns_below ho2 hb4) (hb_old hr2)
    obtain ⟨hkl, hki⟩ := (plc_some h2.ids).1 hpl
    have hset : (q.set k x).Perm (x :: wo q k) := by
      rw [List.set_eq_take_append_cons_drop, if_pos hkl]
      exact List.perm_middle
    have hwo : (wo (inOrder q) j).Perm (wo q k) := wo_rest h2.ids hpl hj (wo_perm hkl)
    have hi : l2 = inOrder q5 := List.Perm.eq_of_pairwise (le := Bef) (fun a b _ _ h1 h2 => absurd h2 (bef_asym h1)) (hput.sorted (wo_sorted (inOrder_sorted q h2.ids)) (plc_none.1 hnot)) (inOrder_sorted q5 hr5.ids) (hput.perm.trans (((hwo.cons x).trans hset.symm).trans (hp5.symm.trans (inOrder_perm q5).symm)))
    exact ⟨rfl, ⟨l2, PP.mk hr5 hh5 hi (hrd2.keeps hk5 (fun k _ h => h)) h6 (by rw [hp5.length_eq, List.length_set]; exact h7)⟩, below_of_keeps hk5 (by omega) (fun k hk => Nat.le_trans h6 (hr4.hb k hk)), kop_keeps hr4 hk5⟩

/-- The rest of a list, read. -/
theorem RdL.tail {w : World} {S : Nat → Prop} {g off n c : Nat} {l : List It} (h : RdL w S (.slice (some ⟨g, off, none⟩) n c) l) (hn : l.length = n) (h0 : 0 < n) : RdL w S (.slice (if c = 1 then some ⟨g, off, none⟩ else some ⟨g, off + 3, none⟩) (n - 1) (c - 1)) l.tail := by
  obtain ⟨a, c', e, h1, h2, h4⟩ := h
  simp only [Value.slice.injEq] at e
  obtain ⟨rfl, rfl, rfl⟩ := e
  refine ⟨_, c - 1, by rw [List.length_tail], by rw [List.length_tail]; omega, by omega, fun k hk => ?_⟩
  rw [List.length_tail] at hk
  obtain ⟨g', off', e, hg, hS, c0, c1, c2⟩ := h4 (k + 1) (by omega)
  simp only [Option.some.injEq, Addr.mk.injEq] at e
  obtain ⟨rfl, rfl, -⟩ := e
  have hit : it l.tail k = it l (k + 1) := by
    unfold it
    rw [List.getD_eq_getElem?_getD, List.getD_eq_getElem?_getD, List.getElem?_tail]
  rw [hit, if_neg (by omega)]
  exact ⟨g, off + 3, rfl, hg, hS, by rw [show off + 3 + k * 3 = off + (k + 1) * 3 by omega]; exact c0, by rw [show off + 3 + k * 3 = off + (k + 1) * 3 by omega]; exact c1, by rw [show off + 3 + k * 3 = off + (k + 1) * 3 by omega]; exact c2⟩

theorem pp_pop0 (w : World) (base K : Nat) (nl : Bool) (hp : Option Addr) (u : Value) (h : PP w base nl hp u [] K) :
    Calls Try.prog 9 #[.pointer hp] w fun e w' => e = .returned (.tuple #[itv (0, 0, 0), .bool false]) ∧ Below w.heap.size w w' := by
  cases nl with
  | true =>
    obtain ⟨rfl, -, -⟩ := h.nil
    exact pop11_nil w
  | false =>
    obtain ⟨lo, b, m, v, q, rfl, h2, h3, h4, -⟩ := h.real
    have hq : q = [] := by
      have := inOrder_len q
      rw [← h4] at this
      exact List.length_eq_zero_iff.1 this.symm
    subst hq
    exact pop11_no w lo b m v h2

/-- POP of one that is there. -/
theorem pp_pop (w : World) (base K g off n c : Nat) (hp : Option Addr) (l : List It) (h : PP w base false hp (.slice (some ⟨g, off, none⟩) (n + 1) c) l K) (hl : l.length = n + 1) :
    Calls Try.prog 9 #[.pointer hp] w fun e w3 => e = .returned (.tuple #[itv (it l 0), .bool true]) ∧ (∃ S, RdL w3 S (.slice (some ⟨g, off, none⟩) (n + 1) c) l) ∧ (∃ l3, PP w3 base false hp (.slice (if c = 1 then some ⟨g, off, none⟩ else some ⟨g, off + 3, none⟩) n (c - 1)) l3 K) ∧ Below base w w3 ∧ Kop w w3 := by
  obtain ⟨lo, b, m, v, q, rfl, h2, h3, rfl, h5, h6, h7⟩ := h.real
  rw [inOrder_len] at hl
  have hlo2 := h2.lob
  have hlt2 := h2.lt
  refine Calls.mono (pop11_yes w lo b m v q n h2 h3 hl) ?_
  rintro e w3 ⟨rfl, v3, q3, hr3, hh3, hp3, hk3, ho3⟩
  have hrd3 := (h5.keeps hk3 (fun k _ h => h)).set (T := Hb b m v3) (fun k _ h => by unfold Hb at *; rw [ho3] at h; exact h)
  have hrf := rootIs h3 h2.ids hl
  have hcons : inOrder q = it q 0 :: (inOrder q).tail := by
    cases e : inOrder q with
    | nil => have := inOrder_len q; rw [e, hl] at this; simp at this
    | cons y r =>
      rw [e] at hrf
      rw [← hrf]
      rfl
  have hpt : ((inOrder q).tail).Perm q3 := by
    have h1 := inOrder_perm q
    rw [hcons] at h1
    exact List.Perm.cons_inv (h1.trans hp3.symm)
  have hst : ((inOrder q).tail).Pairwise Bef := (inOrder_sorted q h2.ids).sublist (List.tail_sublist _)
  have hi : (inOrder q).tail = inOrder q3 := List.Perm.eq_of_pairwise (le := Bef) (fun a b _ _ h1 h2 => absurd h2 (bef_asym h1)) hst (inOrder_sorted q3 hr3.ids) (hpt.trans (inOrder_perm q3).symm)
  have hl3 := hp3.length_eq
  rw [List.length_cons] at hl3
  have htl := hrd3.tail (by rw [inOrder_len]; exact hl) (by omega)
  rw [Nat.add_sub_cancel] at htl
  exact ⟨by rw [hrf], ⟨_, hrd3⟩, ⟨_, PP.mk hr3 hh3 hi htl h6 (by omega)⟩, below_of_keeps hk3 (by omega) (fun k hk => Nat.le_trans h6 (h2.hb k hk)), kop_keeps h2 hk3⟩

end Go.Proofs.Ytcgfechodbmimaa
