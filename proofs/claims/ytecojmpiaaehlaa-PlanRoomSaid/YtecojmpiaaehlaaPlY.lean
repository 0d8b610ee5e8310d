/-
  Nobody waits longer for who came later, plainly.
-/
import Derived.Test.YtecojmpiaaehlaaPlZ
namespace Go.Proofs.Ytecojmpiaaehlaa
set_option linter.unusedVariables false

/-- Two profiles that are apart at the cells C of row r alone: in the one they are free at once. -/
structure Dif (p p' : List (List Nat)) (r : Nat) (C : Nat → Prop) : Prop where
  len : p.length = p'.length
  rlen : ∀ i, (p.getD i []).length = (p'.getD i []).length
  same : ∀ i j, ¬ (i = r ∧ C j) → (p.getD i []).getD j 0 = (p'.getD i []).getD j 0
  zero : ∀ j, C j → (p.getD r []).getD j 0 = 0
theorem list_ext_getD {l l' : List Nat} (h1 : l.length = l'.length) (h2 : ∀ j, l.getD j 0 = l'.getD j 0) : l = l' := by
  apply List.ext_getElem h1
  intro i g1 g2
  have := h2 i
  rw [List.getD_eq_getElem?_getD, List.getD_eq_getElem?_getD, List.getElem?_eq_getElem g1, List.getElem?_eq_getElem g2] at this
  exact this
theorem Dif.row {p p' : List (List Nat)} {r : Nat} {C : Nat → Prop} (h : Dif p p' r C) {i : Nat} (hi : i ≠ r) : p.getD i [] = p'.getD i [] :=
  list_ext_getD (h.rlen i) fun j => h.same i j fun e => hi e.1
theorem Dif.le {p p' : List (List Nat)} {r : Nat} {C : Nat → Prop} (h : Dif p p' r C) : LeP p p' := by
  refine ⟨h.len, fun i => ⟨h.rlen i, fun j => ?_⟩⟩
  by_cases e : i = r ∧ C j
  · rw [e.1, h.zero j e.2]; exact Nat.zero_le _
  · rw [h.same i j e]; exact Nat.le_refl _
/-- Who doesn't take them starts where it did. -/
theorem Dif.fst {p p' : List (List Nat)} {r : Nat} {C : Nat → Prop} (h : Dif p p' r C) (hC : ∃ c, C c ∧ c < (p.getD r []).length) (K : Int)
    (hno : ∀ t ns, first p K = some (t, r, ns) → ∀ c ∈ ns, ¬ C c) : first p' K = first p K := by
  cases h1 : Go.Proofs.Ytecojmpiaaehlaa.first p K with
  | none =>
    have := (h.le.fst K).1
    rw [h1] at this
    cases h2 : Go.Proofs.Ytecojmpiaaehlaa.first p' K with
    | none => rfl
    | some s => rw [h2] at this; cases this
  | some s =>
    obtain ⟨t, i, ns⟩ := s
    obtain ⟨k, rfl, hk, hb, rfl⟩ := first_some.1 h1
    obtain ⟨g1, g2, g3, g4⟩ := bestTo_some.1 hb
    -- the row that was found finds the same
    have hrow : rowT (p'.getD i []) k = some t ∧ sel (p'.getD i []) k t = sel (p.getD i []) k t := by
      by_cases e : i = r
      · subst e
        obtain ⟨c, hc, hcl⟩ := hC
        have hnc : c ∉ sel (p.getD i []) k t := fun hm => hno t _ h1 c hm hc
        have hz := h.zero c hc
        have hpf : pickB (p.getD i []) k t c = false := by
          cases hp : pickB (p.getD i []) k t c with
          | false => rfl
          | true => exact absurd (List.mem_filter.2 ⟨List.mem_range.2 hcl, hp⟩) hnc
        have ht0 : t = 0 := by
          unfold pickB at hpf
          rw [hz] at hpf
          simp only [Bool.or_eq_false_iff, decide_eq_false_iff_not] at hpf
          omega
        subst ht0
        have hin : ∀ q, q < (p.getD i []).length → pickB (p.getD i []) k 0 q = true → ¬ C q ∧ (p.getD i []).getD q 0 = 0 ∧ (p'.getD i []).getD q 0 = 0 := by
          intro q hq hs
          have hm : q ∈ sel (p.getD i []) k 0 := List.mem_filter.2 ⟨List.mem_range.2 hq, hs⟩
          have h5 := hno 0 _ h1 q hm
          have h6 := (sel_mem hm).2
          refine ⟨h5, by omega, ?_⟩
          rw [← h.same i q (fun e => h5 e.2)]
          omega
        have hlen := h.rlen i
        have hcs := sel_cnt hk g2
        have hle : k ≤ cnt (p'.getD i []) 0 := by
          rw [← hcs]
          have hgen : ∀ (l : List Nat) (S : Nat → Bool), (∀ q, q < l.length → S q = true → l.getD q 0 = 0) → cntS l.length S ≤ cnt l 0 := by
            intro l
            induction l with
            | nil => intro S _; exact Nat.le_refl _
            | cons x l ih =>
              intro S hS
              have h7 := ih (fun q => S (q + 1)) fun q hq hs => by
                have := hS (q + 1) (by simp; omega) hs
                simpa using this
              have h8 : cntS (x :: l).length S = (if S 0 = true then 1 else 0) + cntS l.length (fun q => S (q + 1)) := by
                unfold cntS
                rw [List.length_cons, List.range_succ_eq_map]
                have h9 : ((List.map Nat.succ (List.range l.length)).filter S).length = ((List.range l.length).filter fun q => S (q + 1)).length := by
                  rw [List.filter_map, List.length_map]; rfl
                cases hs0 : S 0 with
                | true => rw [List.filter_cons_of_pos hs0, List.length_cons, h9]; simp; omega
                | false => rw [List.filter_cons_of_neg (by rw [hs0]; simp), h9]; simp
              rw [h8, cnt_cons]
              by_cases hs0 : S 0 = true
              · have hx : x = 0 := by have := hS 0 (by simp) hs0; simpa using this
                rw [if_pos hs0, if_pos (by omega)]; omega
              · rw [if_neg hs0]; omega
          rw [hlen]
          exact hgen _ _ fun q hq hs => (hin q (by rw [hlen]; exact hq) hs).2.2
        obtain ⟨t2, h7, h8⟩ := rowT_le hk hle
        obtain rfl : t2 = 0 := by omega
        refine ⟨h7, ?_⟩
        have hlow : IsLow (p'.getD i []) (pickB (p.getD i []) k 0) := by
          intro a b ha hb' hs hl
          rw [← hlen] at ha hb'
          obtain ⟨-, h10, h11⟩ := hin b hb' hs
          unfold Lo at hl
          rw [h11] at hl
          have ha0 : (p.getD i []).getD a 0 = 0 := by
            by_cases hCa : C a
            · exact h.zero a hCa
            · rw [h.same i a (fun e => hCa e.2)]; omega
          refine pick_low (p.getD i []) k 0 a b ha hb' hs ?_
          unfold Lo
          omega
        unfold Go.Proofs.Ytecojmpiaaehlaa.sel selTo
        rw [← hlen]
        refine List.filter_congr fun q hq => ?_
        have hq' := List.mem_range.1 hq
        exact low_uniq (l := p'.getD i []) (pick_low _ k 0) hlow (by rw [sel_cnt hk h7, ← hlen, hcs]) (by rw [← hlen]; exact hq')
      · rw [← h.row e]; exact ⟨g2, rfl⟩
    refine first_some.2 ⟨k, rfl, hk, bestTo_some.2 ⟨by rw [← h.len]; exact g1, hrow.1, fun j u hj hu => ?_, fun j u hj hu => ?_⟩, hrow.2.symm⟩
    · obtain ⟨u', h5, h6⟩ := (h.le.2 j).rowT hk hu
      have := g3 j u' (by rw [h.len]; exact hj) h5
      omega
    · obtain ⟨u', h5, h6⟩ := (h.le.2 j).rowT hk hu
      have := g4 j u' hj h5
      omega

theorem res_cell {p : List (List Nat)} {t i : Nat} {ns : List Nat} {len : Int} (hi : i < p.length) (a j : Nat) : ((resI p true t i (ns.map Int.ofNat) len).getD a []).getD j 0 = if a = i ∧ j ∈ ns ∧ j < (p.getD i []).length then addT t (max len 1) else (p.getD a []).getD j 0 := by
  rw [res_get hi]
  by_cases e : a = i
  · subst e
    rw [if_pos rfl, setI_get]
    by_cases h : j ∈ ns ∧ j < (p.getD a []).length
    · rw [if_pos h, if_pos ⟨rfl, h⟩]
    · rw [if_neg h, if_neg (fun h2 => h h2.2)]
  · rw [if_neg e, if_neg (fun h => e h.1)]
theorem res_rlen {p : List (List Nat)} {t i : Nat} {ns : List Nat} {len : Int} (hi : i < p.length) (a : Nat) : ((resI p true t i (ns.map Int.ofNat) len).getD a []).length = (p.getD a []).length := by
  rw [res_get hi]
  by_cases e : a = i
  · subst e; rw [if_pos rfl, setI_len]
  · rw [if_neg e]
/-- Both ask the same: they stay apart at these cells alone. -/
theorem Dif.aft {p p' : List (List Nat)} {r : Nat} {C : Nat → Prop} (h : Dif p p' r C) (a : Int × Int) (hf : first p' a.1 = first p a.1)
    (hno : ∀ t ns, first p a.1 = some (t, r, ns) → ∀ c ∈ ns, ¬ C c) : Dif (aft p a) (aft p' a) r C := by
  cases h1 : Go.Proofs.Ytecojmpiaaehlaa.first p a.1 with
  | none =>
    have e1 : Go.Proofs.Ytecojmpiaaehlaa.aft p a = p := by unfold Go.Proofs.Ytecojmpiaaehlaa.aft; rw [h1]
    have e2 : Go.Proofs.Ytecojmpiaaehlaa.aft p' a = p' := by unfold Go.Proofs.Ytecojmpiaaehlaa.aft; rw [hf, h1]
    rw [e1, e2]; exact h
  | some s =>
    obtain ⟨t, i, ns⟩ := s
    rw [aft_some h1, aft_some (hf.trans h1)]
    have hi := (first_row h1).1
    have hi' : i < p'.length := by rw [← h.len]; exact hi
    refine ⟨by rw [resI_len, resI_len]; exact h.len, fun b => by rw [res_rlen hi, res_rlen hi']; exact h.rlen b, fun b j hb => ?_, fun j hj => ?_⟩
    · rw [res_cell hi, res_cell hi', h.rlen i]
      split
      · rfl
      · exact h.same b j hb
    · rw [res_cell hi, if_neg]
      · exact h.zero j hj
      · rintro ⟨rfl, h2, -⟩
        exact hno t ns h1 j h2 hj

/-- A cell that is free at once behind an ask was so ahead of it, and isn't taken by it. -/
theorem aft_zero {p : List (List Nat)} {a : Int × Int} {r c : Nat} (hc : c < (p.getD r []).length) (h : ((aft p a).getD r []).getD c 0 = 0) : (p.getD r []).getD c 0 = 0 ∧ ∀ t ns, first p a.1 = some (t, r, ns) → c ∉ ns := by
  cases h1 : first p a.1 with
  | none =>
    have e1 : aft p a = p := by unfold aft; rw [h1]
    rw [e1] at h
    exact ⟨h, fun t ns h2 => by cases h2⟩
  | some s =>
    obtain ⟨t, i, ns⟩ := s
    rw [aft_some h1] at h
    have hi := (first_row h1).1
    rw [res_cell hi] at h
    have hp := addT_pos (t := t) (n := max a.2 1) (by omega)
    split at h
    · omega
    · rename_i h2
      refine ⟨h, fun t' ns' h3 hm => h2 ?_⟩
      cases h3
      exact ⟨rfl, hm, hc⟩
theorem aft_rlen (p : List (List Nat)) (a : Int × Int) (r : Nat) : ((aft p a).getD r []).length = (p.getD r []).length := by
  cases h1 : first p a.1 with
  | none => unfold aft; rw [h1]
  | some s => obtain ⟨t, i, ns⟩ := s; rw [aft_some h1, res_rlen (first_row h1).1]
theorem aftL_rlen (p : List (List Nat)) (l : List (Int × Int)) (r : Nat) : ((aftL p l).getD r []).length = (p.getD r []).length := by
  unfold aftL
  induction l generalizing p with
  | nil => rfl
  | cons a l ih => rw [List.foldl_cons, ih, aft_rlen]
/-- The plan of those ahead is the same, if who starts at once starts first. -/
theorem dif_plan {C : Nat → Prop} {r : Nat} (hex : ∃ c, C c) : ∀ (l : List (Int × Int)) {p p' : List (List Nat)}, Dif p p' r C → (∀ c, C c → c < (p.getD r []).length ∧ ((aftL p l).getD r []).getD c 0 = 0) →
    ∀ j, j ≤ l.length → Dif (aftL p (l.take j)) (aftL p' (l.take j)) r C ∧ (∀ a, l[j]? = some a → first (aftL p' (l.take j)) a.1 = first (aftL p (l.take j)) a.1)
  | [], p, p', hd, hz, j, hj => by
    obtain rfl : j = 0 := by simpa using hj
    exact ⟨hd, fun a ha => by simp at ha⟩
  | a :: l, p, p', hd, hz, j, hj => by
    have hz2 : ∀ c, C c → c < ((aft p a).getD r []).length ∧ ((aftL (aft p a) l).getD r []).getD c 0 = 0 := fun c hc => by rw [aft_rlen]; exact hz c hc
    have hz3 : ∀ c, C c → ((aft p a).getD r []).getD c 0 = 0 := by
      intro c hc
      have hgen : ∀ (l : List (Int × Int)) (p : List (List Nat)), c < (p.getD r []).length → ((aftL p l).getD r []).getD c 0 = 0 → (p.getD r []).getD c 0 = 0 := by
        intro l
        induction l with
        | nil => intro p _ h; exact h
        | cons b l ih => intro p hp h; exact (aft_zero hp (ih (aft p b) (by rw [aft_rlen]; exact hp) h)).1
      exact hgen l _ (hz2 c hc).1 (hz2 c hc).2
    have hno : ∀ t ns, first p a.1 = some (t, r, ns) → ∀ c ∈ ns, ¬ C c := fun t ns h1 c hm hc => (aft_zero (hz c hc).1 (hz3 c hc)).2 t ns h1 hm
    have hf := hd.fst (by obtain ⟨c, hc⟩ := hex; exact ⟨c, hc, (hz c hc).1⟩) a.1 hno
    match j with
    | 0 => exact ⟨hd, fun b hb => by cases hb; exact hf⟩
    | j + 1 =>
      have := dif_plan hex l (hd.aft a hf hno) hz2 j (by simpa using hj)
      exact this
/-- NOBODY WAITS LONGER FOR WHO CAME LATER. -/
theorem plan_fair {p : List (List Nat)} {L : List (Int × Int)} {i r : Nat} {ns : List Nat} {a : Int × Int} (ha : L[i]? = some a) (h : planAt p L i = some (0, r, ns)) :
    later (planL p (L.take i)) (planL (resI p true (0 : Nat) r (ns.map Int.ofNat) a.2) (L.take i)) i = false := by
  have hi := (List.getElem?_eq_some_iff.1 ha).1
  rw [planAt_of ha] at h
  obtain ⟨hr, k, -, hk, hT, hns⟩ := first_row h
  rw [aftL_len] at hr
  have hlen : ∀ c, c ∈ ns → c < (p.getD r []).length ∧ ((aftL p (L.take i)).getD r []).getD c 0 = 0 := fun c hc => by
    rw [hns] at hc
    have := sel_mem hc
    rw [aftL_rlen] at this
    exact ⟨this.1, by omega⟩
  have hne : ∃ c, c ∈ ns := by
    have h1 := sel_len hk hT
    rw [← hns] at h1
    cases hn : ns with
    | nil => rw [hn] at h1; simp at h1; omega
    | cons c l => exact ⟨c, by simp⟩
  have hz0 : ∀ c, c ∈ ns → (p.getD r []).getD c 0 = 0 := by
    intro c hc
    have hgen : ∀ (l : List (Int × Int)) (p : List (List Nat)), c < (p.getD r []).length → ((aftL p l).getD r []).getD c 0 = 0 → (p.getD r []).getD c 0 = 0 := by
      intro l
      induction l with
      | nil => intro p _ h; exact h
      | cons b l ih => intro p hp h; exact (aft_zero hp (ih (aft p b) (by rw [aft_rlen]; exact hp) h)).1
    exact hgen _ _ (hlen c hc).1 (hlen c hc).2
  have hd : Dif p (resI p true (0 : Nat) r (ns.map Int.ofNat) a.2) r (· ∈ ns) := by
    refine ⟨(resI_len _ _ _ _ _ _).symm, fun b => (res_rlen hr b).symm, fun b j hb => ?_, hz0⟩
    rw [res_cell hr, if_neg]
    rintro ⟨h1, h2, -⟩
    exact hb ⟨h1, h2⟩
  have hall := dif_plan hne (L.take i) hd hlen
  unfold later
  rw [List.any_eq_false]
  intro j hj
  have hj' := List.mem_range.1 hj
  have hjl : j < (L.take i).length := by rw [List.length_take]; omega
  rw [planL_getD hjl, planL_getD hjl]
  obtain ⟨b, hb⟩ : ∃ b, (L.take i)[j]? = some b := ⟨_, List.getElem?_eq_getElem hjl⟩
  rw [planAt_of hb, planAt_of hb, (hall j (by omega)).2 b hb]
  simp

end Go.Proofs.Ytecojmpiaaehlaa
