/-
  A plan, plainly: times only rise; nobody who starts at once makes anybody ahead of it wait.
-/
import Derived.Test.YtecojmpiaaehlaaPlU
namespace Go.Proofs.Ytecojmpiaaehlaa
set_option linter.unusedVariables false

def LeL (l l' : List Nat) : Prop := l.length = l'.length ∧ ∀ j, l.getD j 0 ≤ l'.getD j 0
theorem LeL.refl (l : List Nat) : LeL l l := ⟨rfl, fun _ => Nat.le_refl _⟩
theorem LeL.trans {a b c : List Nat} (h : LeL a b) (k : LeL b c) : LeL a c := ⟨h.1.trans k.1, fun j => Nat.le_trans (h.2 j) (k.2 j)⟩
theorem LeL.cons {a b : Nat} {l l' : List Nat} (h : LeL (a :: l) (b :: l')) : a ≤ b ∧ LeL l l' :=
  ⟨h.2 0, by have := h.1; simpa using this, fun j => by have := h.2 (j + 1); simpa using this⟩
theorem LeL.cnt : ∀ {l l' : List Nat} (t : Nat), LeL l l' → cnt l' t ≤ cnt l t
  | [], [], t, _ => Nat.le_refl _
  | [], _ :: _, t, h => by have := h.1; simp at this
  | _ :: _, [], t, h => by have := h.1; simp at this
  | a :: l, b :: l', t, h => by
    obtain ⟨h1, h2⟩ := h.cons
    have := LeL.cnt t h2
    rw [cnt_cons, cnt_cons]
    by_cases h3 : b ≤ t
    · rw [if_pos h3, if_pos (by omega)]; omega
    · rw [if_neg h3]; omega
theorem rowT_le {l : List Nat} {k u : Nat} (hk : 1 ≤ k) (h : k ≤ cnt l u) : ∃ t, rowT l k = some t ∧ t ≤ u := by
  have hne : (l.filter fun c => decide (c ≤ u)) ≠ [] := fun e => by unfold Go.Proofs.Ytecojmpiaaehlaa.cnt at h; rw [e] at h; simp at h; omega
  obtain ⟨m, hm1, hm2⟩ := max_ex hne
  rw [List.mem_filter, decide_eq_true_eq] at hm1
  have hc : cnt l u ≤ cnt l m := by
    clear h hm1 hne
    induction l with
    | nil => exact Nat.le_refl _
    | cons c l ih =>
      rw [cnt_cons, cnt_cons]
      have := ih fun x hx => hm2 x (by
        rw [List.mem_filter] at hx ⊢
        exact ⟨List.mem_cons_of_mem _ hx.1, hx.2⟩)
      by_cases h3 : c ≤ u
      · rw [if_pos h3, if_pos (hm2 c (List.mem_filter.2 ⟨by simp, by simpa using h3⟩))]; omega
      · rw [if_neg h3]; omega
  cases hr : rowT l k with
  | none => have := rowT_none.1 hr m hm1.1; omega
  | some t => exact ⟨t, rfl, Nat.le_trans ((rowT_some.1 hr).2 m hm1.1 (by omega)) hm1.2⟩
theorem rowT_isSome {l : List Nat} {k : Nat} (hk : 1 ≤ k) : (rowT l k).isSome = decide (k ≤ l.length) := by
  by_cases h : k ≤ l.length
  · rw [decide_eq_true h]
    obtain ⟨q, rfl⟩ : ∃ q, k = q + 1 := ⟨k - 1, by omega⟩
    rw [sorted_T (by omega)]; rfl
  · rw [decide_eq_false h]
    cases hr : rowT l k with
    | none => rfl
    | some t =>
      have h1 := (rowT_some.1 hr).1.2
      have := cnt_len l t
      omega
theorem LeL.rowT {l l' : List Nat} {k t' : Nat} (h : LeL l l') (hk : 1 ≤ k) (ht : rowT l' k = some t') : ∃ t, rowT l k = some t ∧ t ≤ t' :=
  rowT_le hk (Nat.le_trans (rowT_some.1 ht).1.2 (h.cnt t'))

def LeP (p p' : List (List Nat)) : Prop := p.length = p'.length ∧ ∀ i, LeL (p.getD i []) (p'.getD i [])
theorem LeP.refl (p : List (List Nat)) : LeP p p := ⟨rfl, fun _ => LeL.refl _⟩
theorem LeP.trans {a b c : List (List Nat)} (h : LeP a b) (k : LeP b c) : LeP a c := ⟨h.1.trans k.1, fun j => (h.2 j).trans (k.2 j)⟩
/-- Where an ask starts, told apart. -/
theorem first_some {p : List (List Nat)} {K : Int} {t i : Nat} {ns : List Nat} : first p K = some (t, i, ns) ↔ ∃ k : Nat, K = (k : Int) ∧ 1 ≤ k ∧ bestTo p k p.length = some (t, i) ∧ ns = sel (p.getD i []) k t := by
  unfold first
  by_cases h : K < 1
  · rw [if_pos h]
    constructor
    · intro h; cases h
    · rintro ⟨k, rfl, h1, _⟩; omega
  · rw [if_neg h]
    constructor
    · intro h1
      cases hb : bestTo p K.toNat p.length with
      | none => rw [hb] at h1; cases h1
      | some s =>
        obtain ⟨t', i'⟩ := s
        rw [hb] at h1
        simp only [Option.map_some, Option.some.injEq, Prod.mk.injEq] at h1
        obtain ⟨rfl, rfl, rfl⟩ := h1
        exact ⟨K.toNat, by omega, by omega, hb, rfl⟩
    · rintro ⟨k, rfl, h1, h2, rfl⟩
      rw [Int.toNat_natCast, h2]; rfl
theorem first_none {p : List (List Nat)} {K : Int} : first p K = none ↔ K < 1 ∨ ∀ j, j < p.length → (p.getD j []).length < K.toNat := by
  unfold first
  by_cases h : K < 1
  · rw [if_pos h]; simp [h]
  · rw [if_neg h]
    have hk : 1 ≤ K.toNat := by omega
    have : (bestTo p K.toNat p.length).map (fun s => (s.1, s.2, sel (p.getD s.2 []) K.toNat s.1)) = none ↔ bestTo p K.toNat p.length = none := by
      cases bestTo p K.toNat p.length <;> simp
    rw [this, bestTo_none]
    constructor
    · intro h2
      right
      intro j hj
      have h3 := h2 j hj
      have h4 := rowT_isSome (l := p.getD j []) hk
      rw [h3] at h4
      have h5 := of_decide_eq_false h4.symm
      omega
    · rintro (h2 | h2)
      · exact absurd h2 h
      · intro j hj
        have h3 := h2 j hj
        have h4 := rowT_isSome (l := p.getD j []) hk
        rw [decide_eq_false (by omega)] at h4
        cases hr : rowT (p.getD j []) K.toNat with
        | none => rfl
        | some t => rw [hr] at h4; cases h4

theorem LeP.fst {p p' : List (List Nat)} (h : LeP p p') (K : Int) : (first p K).isSome = (first p' K).isSome ∧ stA (first p K) ≤ stA (first p' K) := by
  cases h1 : first p K with
  | none =>
    have h2 : Go.Proofs.Ytecojmpiaaehlaa.first p' K = none := by
      rw [first_none] at h1 ⊢
      rcases h1 with h1 | h1
      · exact .inl h1
      · refine .inr fun j hj => ?_
        have := h1 j (by rw [h.1]; exact hj)
        rw [← (h.2 j).1]; exact this
    rw [h2]; exact ⟨rfl, Nat.le_refl _⟩
  | some s =>
    obtain ⟨t, i, ns⟩ := s
    cases h2 : Go.Proofs.Ytecojmpiaaehlaa.first p' K with
    | none =>
      exfalso
      have h3 : Go.Proofs.Ytecojmpiaaehlaa.first p K = none := by
        rw [first_none] at h2 ⊢
        rcases h2 with h2 | h2
        · exact .inl h2
        · refine .inr fun j hj => ?_
          have := h2 j (by rw [← h.1]; exact hj)
          rw [(h.2 j).1]; exact this
      rw [h1] at h3; cases h3
    | some s' =>
      obtain ⟨t', i', ns'⟩ := s'
      refine ⟨rfl, ?_⟩
      obtain ⟨k, rfl, hk, hb, -⟩ := first_some.1 h1
      obtain ⟨k', hkk, -, hb', -⟩ := first_some.1 h2
      obtain rfl : k = k' := by omega
      obtain ⟨g1, g2, -, -⟩ := bestTo_some.1 hb'
      obtain ⟨-, -, g3, -⟩ := bestTo_some.1 hb
      obtain ⟨u, g4, g5⟩ := (h.2 i').rowT hk g2
      have := g3 i' u (by rw [h.1]; exact g1) g4
      show t ≤ t'
      omega

/-- Who is taken is free by then. -/
theorem sel_mem {l : List Nat} {k t q : Nat} (h : q ∈ sel l k t) : q < l.length ∧ l.getD q 0 ≤ t := by
  unfold sel selTo at h
  rw [List.mem_filter, List.mem_range] at h
  refine ⟨h.1, ?_⟩
  have h2 := h.2
  unfold pickB at h2
  simp only [Bool.or_eq_true, decide_eq_true_eq, Bool.and_eq_true, beq_iff_eq] at h2
  omega
theorem setI_get (e : Nat) : ∀ (ns : List Nat) (l : List Nat) (j : Nat), (setI l (ns.map Int.ofNat) e).getD j 0 = if j ∈ ns ∧ j < l.length then e else l.getD j 0
  | [], l, j => by simp [setI]
  | n :: ns, l, j => by
    have hstep : setI l ((n :: ns).map Int.ofNat) e = setI (if n < l.length then l.set n e else l) (ns.map Int.ofNat) e := by
      unfold setI
      rw [List.map_cons, List.foldl_cons]
      congr 1
      by_cases h : n < l.length
      · rw [if_pos h, if_pos ⟨Int.natCast_nonneg n, by show ((n : Nat) : Int) < _; omega⟩]; rfl
      · rw [if_neg h, if_neg (by rintro ⟨_, h2⟩; have h3 : ((n : Nat) : Int) < (l.length : Int) := h2; omega)]
    rw [hstep, setI_get e ns]
    have hl : (if n < l.length then l.set n e else l).length = l.length := by split <;> simp
    rw [hl]
    by_cases hj : j < l.length
    · by_cases h1 : j ∈ ns
      · rw [if_pos (show j ∈ ns ∧ j < l.length from ⟨h1, hj⟩), if_pos (show j ∈ n :: ns ∧ j < l.length from ⟨List.mem_cons_of_mem _ h1, hj⟩)]
      · rw [if_neg (show ¬ (j ∈ ns ∧ j < l.length) from fun h => h1 h.1)]
        by_cases h2 : j = n
        · subst h2
          rw [if_pos hj, if_pos (show j ∈ j :: ns ∧ j < l.length from ⟨by simp, hj⟩), List.getD_eq_getElem?_getD, List.getElem?_set_self hj]; rfl
        · rw [if_neg (show ¬ (j ∈ n :: ns ∧ j < l.length) from fun h3 => (List.mem_cons.1 h3.1).elim (fun h4 => h2 h4) (fun h4 => h1 h4))]
          by_cases h5 : n < l.length
          · rw [if_pos h5, List.getD_eq_getElem?_getD, List.getD_eq_getElem?_getD, List.getElem?_set_ne (Ne.symm h2)]
          · rw [if_neg h5]
    · rw [if_neg (show ¬ (j ∈ ns ∧ j < l.length) from fun h => hj h.2), if_neg (show ¬ (j ∈ n :: ns ∧ j < l.length) from fun h => hj h.2)]
      rw [List.getD_eq_getElem?_getD, List.getD_eq_getElem?_getD, List.getElem?_eq_none (by rw [hl]; omega), List.getElem?_eq_none (by omega)]
theorem set_getD {p : List (List Nat)} {i j : Nat} {l : List Nat} (hi : i < p.length) : (p.set i l).getD j [] = if j = i then l else p.getD j [] := by
  by_cases e : j = i
  · subst e
    rw [if_pos rfl, List.getD_eq_getElem?_getD, List.getElem?_set_self hi]; rfl
  · rw [if_neg e, List.getD_eq_getElem?_getD, List.getD_eq_getElem?_getD, List.getElem?_set_ne (Ne.symm e)]
/-- Behind who starts at t, in row i, at these nodes, for so long. -/
theorem res_get {p : List (List Nat)} {t i : Nat} {ns : List Nat} {len : Int} (hi : i < p.length) (j : Nat) : (resI p true t i (ns.map Int.ofNat) len).getD j [] = if j = i then setI (p.getD i []) (ns.map Int.ofNat) (addT t (max len 1)) else p.getD j [] := by
  unfold resI
  rw [if_pos ⟨rfl, by omega, by omega⟩, Int.toNat_natCast]
  exact set_getD hi
/-- All times lie within their bounds. -/
def TopP (p : List (List Nat)) : Prop := ∀ l ∈ p, ∀ x ∈ l, x ≤ topN
theorem TopP.at {p : List (List Nat)} (h : TopP p) {i t k : Nat} (ht : rowT (p.getD i []) k = some t) : t ≤ topN := by
  have hm := (rowT_some.1 ht).1.1
  rw [List.getD_eq_getElem?_getD] at hm
  cases hp : p[i]? with
  | none => rw [hp] at hm; cases hm
  | some l => rw [hp] at hm; exact h l (List.mem_of_getElem? hp) t hm
theorem addT_ge {t : Nat} {n : Int} (h : t ≤ topN) : t ≤ addT t n := by unfold addT; rw [bnd_nat h]; omega
theorem addT_pos {t : Nat} {n : Int} (hn : 1 ≤ n) : 1 ≤ addT t n := by
  unfold addT bnd topN; omega
theorem first_row {p : List (List Nat)} {K : Int} {t i : Nat} {ns : List Nat} (h : first p K = some (t, i, ns)) : i < p.length ∧ (∃ k : Nat, K = (k : Int) ∧ 1 ≤ k ∧ rowT (p.getD i []) k = some t ∧ ns = sel (p.getD i []) k t) := by
  obtain ⟨k, rfl, hk, hb, rfl⟩ := first_some.1 h
  obtain ⟨h1, h2, -, -⟩ := bestTo_some.1 hb
  exact ⟨h1, k, rfl, hk, h2, rfl⟩
theorem aft_some {p : List (List Nat)} {a : Int × Int} {t i : Nat} {ns : List Nat} (h : first p a.1 = some (t, i, ns)) : aft p a = resI p true t i (ns.map Int.ofNat) a.2 := by unfold aft; rw [h]
theorem res_le {p : List (List Nat)} (hp : TopP p) {K len : Int} {t i : Nat} {ns : List Nat} (h : first p K = some (t, i, ns)) : LeP p (resI p true t i (ns.map Int.ofNat) len) := by
  obtain ⟨hi, k, rfl, hk, hT, rfl⟩ := first_row h
  have ht := hp.at hT
  refine ⟨(resI_len _ _ _ _ _ _).symm, fun j => ?_⟩
  rw [res_get hi]
  split
  · rename_i e
    subst e
    refine ⟨(setI_len _ _ _).symm, fun q => ?_⟩
    rw [setI_get]
    split
    · rename_i e2
      have h1 := (sel_mem e2.1).2
      have h2 := addT_ge (n := max len 1) ht
      omega
    · exact Nat.le_refl _
  · exact LeL.refl _
theorem aft_le {p : List (List Nat)} (hp : TopP p) (a : Int × Int) : LeP p (aft p a) := by
  cases h : first p a.1 with
  | none => unfold aft; rw [h]; exact LeP.refl _
  | some s => obtain ⟨t, i, ns⟩ := s; rw [aft_some h]; exact res_le hp h
theorem setI_top {l : List Nat} {ns : List Int} {e : Nat} (h : ∀ x ∈ l, x ≤ topN) (he : e ≤ topN) : ∀ x ∈ setI l ns e, x ≤ topN := by
  unfold setI
  induction ns generalizing l with
  | nil => exact h
  | cons n ns ih =>
    rw [List.foldl_cons]
    refine ih ?_
    split
    · intro x hx
      rcases List.mem_or_eq_of_mem_set hx with hx | rfl
      · exact h x hx
      · exact he
    · exact h
theorem TopP.res {p : List (List Nat)} (h : TopP p) (ok : Bool) (at_ row : Int) (ns : List Int) (len : Int) : TopP (resI p ok at_ row ns len) := by
  unfold resI
  split
  · rename_i hc
    intro l hl x hx
    rcases List.mem_or_eq_of_mem_set hl with hl | rfl
    · exact h l hl x hx
    · refine setI_top (fun y hy => ?_) (addT_le _ _) x hx
      rw [List.getD_eq_getElem?_getD] at hy
      cases hp : p[row.toNat]? with
      | none => rw [hp] at hy; cases hy
      | some l' => rw [hp] at hy; exact h l' (List.mem_of_getElem? hp) y hy
  · exact h
theorem TopP.aft {p : List (List Nat)} (h : TopP p) (a : Int × Int) : TopP (aft p a) := by rw [aft_res]; exact h.res _ _ _ _ _
theorem TopP.aftL {p : List (List Nat)} (h : TopP p) (l : List (Int × Int)) : TopP (aftL p l) := by
  unfold Go.Proofs.Ytecojmpiaaehlaa.aftL
  induction l generalizing p with
  | nil => exact h
  | cons a l ih => exact ih (h.aft a)
theorem aftL_le {p : List (List Nat)} (hp : TopP p) (l : List (Int × Int)) : LeP p (aftL p l) := by
  unfold Go.Proofs.Ytecojmpiaaehlaa.aftL
  induction l generalizing p with
  | nil => exact LeP.refl _
  | cons a l ih => exact (aft_le hp a).trans (ih (hp.aft a))
theorem aftL_app (p : List (List Nat)) (a b : List (Int × Int)) : aftL p (a ++ b) = aftL (aftL p a) b := by unfold aftL; rw [List.foldl_append]
theorem bndP_top (P : List (List Int)) : TopP (bndP P) := by
  intro l hl x hx
  obtain ⟨r, _, rfl⟩ := List.mem_map.1 hl
  obtain ⟨n, _, rfl⟩ := List.mem_map.1 hx
  exact bnd_le n

end Go.Proofs.Ytecojmpiaaehlaa
