/-
  PrioPlays: Change, where the item is there and where it isn't.
-/
import Derived.Test.YtcgfechodbmimaaPrPr
namespace Go.Proofs.Ytcgfechodbmimaa
open Go.RowKit Go.ChangeMaps
set_option linter.unusedVariables false
set_option linter.unusedSimpArgs false

theorem pp_change_no (w : World) (base K : Nat) (hp : Option Addr) (u : Value) (l : List It) (x : It) (h : PP w base false hp u l K) (hx : kw x.1) (hK : K ≤ 1000) (hn : (plc l x.1).isSome = false) :
    Calls Try.prog 10 #[u, .int .u32 x.1] w fun e w1 => ∃ u1, e = .returned (.tuple #[u1, .int .i64 6]) ∧ Below w.heap.size w w1 ∧
      ∀ w2, Below w1.heap.size w1 w2 → Calls Try.prog 12 #[.pointer hp, itv x] w2 fun e w3 => e = .returned (.int .i64 6) ∧ (∃ l3, PP w3 base false hp u1 l3 K) ∧ Below base w2 w3 ∧ Kop w2 w3 := by
  obtain ⟨lo, b, m, v, q, rfl, h2, h3, rfl, h5, h6, h7⟩ := h.real
  rw [plc_perm (inOrder_perm q)] at hn
  have hpl : plc q x.1 = none := by cases e : plc q x.1 with | none => rfl | some k => rw [e] at hn; cases hn
  refine Calls.mono (rremove_no w _ u (inOrder q) x.1 h5 (plc_inOrder hpl)) ?_
  rintro e w1 ⟨rfl, hb⟩
  refine ⟨u, rfl, hb, fun w2 hb2 => ?_⟩
  have hr2 := (h2.below hb).below hb2
  have hlo2 := hr2.lob
  have hlt2 := hr2.lt
  refine Calls.mono (change11_no w2 lo b m v q x hr2 hx hpl) ?_
  rintro e w3 ⟨rfl, hb3⟩
  exact ⟨rfl, ⟨inOrder q, PP.mk (hr2.below hb3) h3 rfl (((h5.below hb).below hb2).below hb3) h6 h7⟩, hb3.mono (by omega), kop_below hb3⟩

theorem pp_change_yes (w : World) (base K : Nat) (hp : Option Addr) (u : Value) (l : List It) (x : It) (h : PP w base false hp u l K) (hx : kw x.1) (hK : K ≤ 1000) (hn : (plc l x.1).isSome = true) :
    Calls Try.prog 10 #[u, .int .u32 x.1] w fun e w1 => ∃ u1, e = .returned (.tuple #[u1, .int .i64 0]) ∧ Below w.heap.size w w1 ∧
      ∀ w2, Below w1.heap.size w1 w2 → Calls Try.prog 7 #[u1, itv x] w2 fun e w3 => ∃ u2, e = .returned (.tuple #[u2, .int .i64 0]) ∧ Below w2.heap.size w2 w3 ∧
          ∀ w4, Below w3.heap.size w3 w4 → Calls Try.prog 12 #[.pointer hp, itv x] w4 fun e w5 => e = .returned (.int .i64 0) ∧ (∃ l3, PP w5 base false hp u2 l3 K) ∧ Below base w4 w5 ∧ Kop w4 w5 := by
  obtain ⟨lo, b, m, v, q, rfl, h2, h3, rfl, h5, h6, h7⟩ := h.real
  rw [plc_perm (inOrder_perm q)] at hn
  obtain ⟨k, hpl⟩ := Option.isSome_iff_exists.1 hn
  obtain ⟨j, hj⟩ := plc_inOrder' hpl
  have hi2 : IdsApart (inOrder q) := h2.ids.perm (inOrder_perm q).symm
  have hjl := ((plc_some hi2).1 hj).1
  have hlw : (wo (inOrder q) j).length ≤ q.length := by have := (wo_perm hjl).length_eq; rw [List.length_cons, inOrder_len] at this; omega
  refine Calls.mono (rremove_yes w _ u (inOrder q) x.1 j h5 (by rw [inOrder_len]; omega) hj hjl) ?_
  rintro e w1 ⟨u1, rfl, ho, hb⟩
  refine ⟨u1, rfl, hb, fun w2 hb2 => ?_⟩
  have hr2 := (h2.below hb).below hb2
  have hrd : RdL w2 (Hb b m v) u1 (wo (inOrder q) j) := RdL.of_own (owns_below ho hb2) (hb_old h2)
  have hnot := wo_not hi2 hj
  refine Calls.mono (rpush_yes w2 _ u1 _ x hrd (by omega) hnot) ?_
  rintro e w3 ⟨u2, rfl, l2, ho2, hput, hb3⟩
  refine ⟨u2, rfl, hb3, fun w4 hb4 => ?_⟩
  have hr4 := (hr2.below hb3).below hb4
  have hlo4 := hr4.lob
  have hlt4 := hr4.lt
  refine Calls.mono (change11_yes w4 lo b m v q x k hr4 h3 hx hpl) ?_
  rintro e w5 ⟨rfl, q5, hr5, hh5, hp5, hk5⟩
  have hrd2 : RdL w4 (Hb b m v) u2 l2 := RdL.of_own (owns_below ho2 hb4) (hb_old hr2)
  obtain ⟨hkl, hki⟩ := (plc_some h2.ids).1 hpl
  have hset : (q.set k x).Perm (x :: wo q k) := by
    rw [List.set_eq_take_append_cons_drop, if_pos hkl]
    exact List.perm_middle
  have hwo : (wo (inOrder q) j).Perm (wo q k) := wo_rest h2.ids hpl hj (wo_perm hkl)
  have hi : l2 = inOrder q5 := List.Perm.eq_of_pairwise (le := Bef) (fun a b _ _ h1 h2 => absurd h2 (bef_asym h1)) (hput.sorted (wo_sorted (inOrder_sorted q h2.ids)) (plc_none.1 hnot)) (inOrder_sorted q5 hr5.ids) (hput.perm.trans (((hwo.cons x).trans hset.symm).trans (hp5.symm.trans (inOrder_perm q5).symm)))
  exact ⟨rfl, ⟨l2, PP.mk hr5 hh5 hi (hrd2.keeps hk5 (fun k _ h => h)) h6 (by rw [hp5.length_eq, List.length_set]; exact h7)⟩, below_of_keeps hk5 (by omega) (fun k hk => Nat.le_trans h6 (hr4.hb k hk)), kop_keeps hr4 hk5⟩

end Go.Proofs.Ytcgfechodbmimaa
