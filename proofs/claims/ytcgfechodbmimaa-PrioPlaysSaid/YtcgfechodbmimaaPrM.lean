/-
  Who goes first, plainly: the order of items; a binary heap, and what up and down keep of it.
-/
import Derived.Test.YtcgfechodbmimaaKit
namespace Go.Proofs.Ytcgfechodbmimaa
set_option linter.unusedVariables false

/-- An item: its ID, its tier, since when. -/
abbrev It := Int × Int × Int
/-- a goes ahead of b. -/
def Bef (a b : It) : Prop := b.2.1 < a.2.1 ∨ (b.2.1 = a.2.1 ∧ (a.2.2 < b.2.2 ∨ (a.2.2 = b.2.2 ∧ a.1 < b.1)))
instance (a b : It) : Decidable (Bef a b) := by unfold Bef; infer_instance
theorem bef_irr (a : It) : ¬ Bef a a := by unfold Bef; omega
theorem bef_asym {a b : It} (h : Bef a b) : ¬ Bef b a := by unfold Bef at *; omega
theorem bef_trans {a b c : It} (h : Bef a b) (h' : Bef b c) : Bef a c := by unfold Bef at *; omega
theorem bef_neg {a b c : It} (h : ¬ Bef a b) (h' : ¬ Bef b c) : ¬ Bef a c := by unfold Bef at *; omega
theorem bef_total {a b : It} (h : a ≠ b) : Bef a b ∨ Bef b a := by
  by_cases h1 : a.2.1 = b.2.1
  · by_cases h2 : a.2.2 = b.2.2
    · by_cases h3 : a.1 = b.1
      · exact absurd (Prod.ext h3 (Prod.ext h1 h2)) h
      · unfold Bef; omega
    · unfold Bef; omega
  · unfold Bef; omega
theorem bef_eq {a b : It} (h : ¬ Bef a b) (h' : ¬ Bef b a) : a = b := by
  by_cases e : a = b
  · exact e
  · rcases bef_total e with h1 | h1
    · exact absurd h1 h
    · exact absurd h1 h'

def it (q : List It) (k : Nat) : It := q.getD k (0, 0, 0)
theorem it_get {q : List It} {k : Nat} {x : It} (h : q[k]? = some x) : it q k = x := by unfold it; rw [List.getD_eq_getElem?_getD, h]; rfl
theorem it_some {q : List It} {k : Nat} (h : k < q.length) : q[k]? = some (it q k) := by unfold it; rw [List.getD_eq_getElem?_getD, List.getElem?_eq_getElem h]; rfl
theorem it_mem {q : List It} {k : Nat} (h : k < q.length) : it q k ∈ q := List.mem_of_getElem? (it_some h)
theorem it_left {q r : List It} {k : Nat} (h : k < q.length) : it (q ++ r) k = it q k := by
  unfold it; rw [List.getD_eq_getElem?_getD, List.getElem?_append_left h, List.getD_eq_getElem?_getD]
theorem it_end (q : List It) (x : It) : it (q ++ [x]) q.length = x := by
  unfold it; rw [List.getD_eq_getElem?_getD, List.getElem?_append_right (Nat.le_refl _), Nat.sub_self]; rfl

/-- Two change places. -/
def swp (q : List It) (i j : Nat) : List It := (q.set i (it q j)).set j (it q i)
theorem swp_len (q : List It) (i j : Nat) : (swp q i j).length = q.length := by simp [swp]
theorem it_swp {q : List It} {i j : Nat} (hi : i < q.length) (hj : j < q.length) (k : Nat) : it (swp q i j) k = if k = j then it q i else if k = i then it q j else it q k := by
  unfold swp
  show ((q.set i (it q j)).set j (it q i)).getD k (0, 0, 0) = _
  rw [List.getD_eq_getElem?_getD, List.getElem?_set]
  by_cases h1 : j = k
  · subst h1
    rw [if_pos rfl, if_pos (by simpa using hj), if_pos rfl]; rfl
  · rw [if_neg h1, if_neg (Ne.symm h1), List.getElem?_set]
    by_cases h2 : i = k
    · subst h2
      rw [if_pos rfl, if_pos hi, if_pos rfl]; rfl
    · rw [if_neg h2, if_neg (Ne.symm h2)]
      unfold it; rw [List.getD_eq_getElem?_getD]
theorem swp_perm {q : List It} {i j : Nat} (hi : i < q.length) (hj : j < q.length) : (swp q i j).Perm q := by
  have h := List.set_set_perm hi hj
  have e1 : it q j = q[j] := it_get (List.getElem?_eq_getElem hj)
  have e2 : it q i = q[i] := it_get (List.getElem?_eq_getElem hi)
  unfold swp
  rw [e1, e2]
  exact h

def par (k : Nat) : Nat := (k - 1) / 2
theorem par_lt {k : Nat} (h : 0 < k) : par k < k := by unfold par; omega

/-- The first n of them are a heap. -/
def HeapN (q : List It) (n : Nat) : Prop := ∀ k, 0 < k → k < n → ¬ Bef (it q k) (it q (par k))
def UpInv (q : List It) (n j : Nat) : Prop := (∀ k, 0 < k → k < n → k ≠ j → ¬ Bef (it q k) (it q (par k))) ∧ (∀ k, 0 < k → k < n → par k = j → 0 < j → ¬ Bef (it q k) (it q (par j)))
def DownInv (q : List It) (n i : Nat) : Prop := (∀ k, 0 < k → k < n → par k ≠ i → ¬ Bef (it q k) (it q (par k))) ∧ (∀ k, 0 < k → k < n → par k = i → 0 < i → ¬ Bef (it q k) (it q (par i)))

theorem HeapN.root {q : List It} {n : Nat} (h : HeapN q n) : ∀ k, k < n → ¬ Bef (it q k) (it q 0) := by
  intro k
  induction k using Nat.strongRecOn with
  | ind k ih =>
    intro hk
    by_cases h0 : k = 0
    · subst h0; exact bef_irr _
    · exact bef_neg (h k (by omega) hk) (ih (par k) (par_lt (by omega)) (by have := par_lt (k := k) (by omega); omega))
theorem up_step {q : List It} {n j : Nat} (h : UpInv q n j) (hn : n ≤ q.length) (hj : j < n) (h0 : 0 < j) (hb : Bef (it q j) (it q (par j))) : UpInv (swp q (par j) j) n (par j) := by
  have hp := par_lt h0
  have hs := it_swp (q := q) (i := par j) (j := j) (by omega) (by omega)
  refine ⟨fun k k0 kn kp => ?_, fun k k0 kn kp p0 => ?_⟩
  · rw [hs, hs]
    by_cases e1 : k = j
    · subst e1
      rw [if_pos rfl, if_neg (by omega), if_pos rfl]
      exact bef_asym hb
    · rw [if_neg e1, if_neg kp]
      by_cases e2 : par k = j
      · rw [if_pos e2]
        exact h.2 k k0 kn e2 h0
      · rw [if_neg e2]
        by_cases e3 : par k = par j
        · rw [if_pos e3]
          have h1 := h.1 k k0 kn e1
          rw [e3] at h1
          exact bef_neg h1 (bef_asym hb)
        · rw [if_neg e3]
          exact h.1 k k0 kn e1
  · have hpp := par_lt p0
    rw [hs, hs]
    have e1 : par (par j) ≠ j := by omega
    have e2 : par (par j) ≠ par j := by omega
    rw [if_neg e1, if_neg e2]
    have h3 := h.1 (par j) p0 (by omega) (by omega)
    by_cases e3 : k = j
    · subst e3
      rw [if_pos rfl]
      exact h3
    · have e4 : k ≠ par j := by have := par_lt k0; omega
      rw [if_neg e3, if_neg e4]
      have h1 := h.1 k k0 kn e3
      rw [kp] at h1
      exact bef_neg h1 h3
theorem up_end {q : List It} {n j : Nat} (h : UpInv q n j) (hb : 0 < j → ¬ Bef (it q j) (it q (par j))) : HeapN q n := fun k k0 kn => by
  by_cases e : k = j
  · subst e; exact hb k0
  · exact h.1 k k0 kn e
theorem up_start {q : List It} {x : It} (h : HeapN q q.length) : UpInv (q ++ [x]) (q.length + 1) q.length := by
  refine ⟨fun k k0 kn kj => ?_, fun k k0 kn kp _ => ?_⟩
  · have hp := par_lt k0
    rw [it_left (by omega), it_left (by omega)]
    exact h k k0 (by omega)
  · have hp := par_lt k0
    omega
theorem par_kids {k i : Nat} (h : 0 < k) : par k = i ↔ k = 2 * i + 1 ∨ k = 2 * i + 2 := by unfold par; omega
theorem down_step {q : List It} {n i j : Nat} (h : DownInv q n i) (hn : n ≤ q.length) (hj : j < n) (h0 : 0 < j) (hp : par j = i) (hl : ∀ k, 0 < k → k < n → par k = i → ¬ Bef (it q k) (it q j)) (hb : Bef (it q j) (it q i)) : DownInv (swp q i j) n j := by
  have hpj := par_lt h0
  have hs := it_swp (q := q) (i := i) (j := j) (by omega) (by omega)
  refine ⟨fun k k0 kn kp => ?_, fun k k0 kn kp _ => ?_⟩
  · have hpk := par_lt k0
    rw [hs, hs]
    by_cases e1 : k = j
    · subst e1
      rw [if_pos rfl, hp, if_neg (by omega), if_pos rfl]
      exact bef_asym hb
    · rw [if_neg e1, if_neg kp]
      by_cases e2 : par k = i
      · rw [if_pos e2, if_neg (by omega)]
        exact hl k k0 kn e2
      · rw [if_neg e2]
        by_cases e3 : k = i
        · subst e3
          rw [if_pos rfl]
          exact h.2 j h0 hj hp k0
        · rw [if_neg e3]
          exact h.1 k k0 kn e2
  · have hpk := par_lt k0
    rw [hs, hs, hp, if_neg (show k ≠ j by omega), if_neg (show k ≠ i by omega), if_neg (show i ≠ j by omega), if_pos rfl]
    have := h.1 k k0 kn (by omega)
    rw [kp] at this
    exact this
theorem down_end {q : List It} {n i : Nat} (h : DownInv q n i) (hb : ∀ k, 0 < k → k < n → par k = i → ¬ Bef (it q k) (it q i)) : HeapN q n := fun k k0 kn => by
  by_cases e : par k = i
  · rw [e]; exact hb k k0 kn e
  · exact h.1 k k0 kn e
theorem down_start {q : List It} {n : Nat} (h : HeapN q (n + 1)) (hl : q.length = n + 1) : DownInv (swp q 0 n) n 0 := by
  refine ⟨fun k k0 kn kp => ?_, fun k _ _ _ h0 => absurd h0 (Nat.lt_irrefl 0)⟩
  have hs := it_swp (q := q) (i := 0) (j := n) (by omega) (by omega)
  have hpk := par_lt k0
  rw [hs, hs, if_neg (by omega), if_neg (by omega), if_neg (by omega), if_neg kp]
  exact h k k0 (by omega)

/-! In order. -/
def ins (x : It) : List It → List It
  | [] => [x]
  | y :: l => if Bef x y then x :: y :: l else y :: ins x l
theorem ins_perm (x : It) : ∀ l : List It, (ins x l).Perm (x :: l)
  | [] => List.Perm.refl _
  | y :: l => by
    unfold ins
    split
    · exact List.Perm.refl _
    · exact ((ins_perm x l).cons y).trans (List.Perm.swap x y l)
theorem ins_len (x : It) (l : List It) : (ins x l).length = l.length + 1 := (ins_perm x l).length_eq
theorem ins_sorted {x : It} : ∀ {l : List It}, l.Pairwise Bef → x ∉ l → (ins x l).Pairwise Bef
  | [], _, _ => by unfold ins; exact List.pairwise_singleton _ _
  | y :: l, h, hx => by
    rw [List.pairwise_cons] at h
    unfold ins
    split
    · rename_i hb
      rw [List.pairwise_cons]
      refine ⟨fun z hz => ?_, List.pairwise_cons.2 h⟩
      rcases List.mem_cons.1 hz with rfl | hz
      · exact hb
      · exact bef_trans hb (h.1 z hz)
    · rename_i hb
      rw [List.pairwise_cons]
      refine ⟨fun z hz => ?_, ins_sorted h.2 (fun h' => hx (List.mem_cons_of_mem _ h'))⟩
      rcases List.mem_cons.1 ((ins_perm x l).mem_iff.1 hz) with rfl | hz
      · rcases bef_total (a := y) (b := z) (fun e => hx (by rw [e]; exact List.mem_cons_self)) with h1 | h1
        · exact h1
        · exact absurd h1 hb
      · exact h.1 z hz
/-- The first of all stands at the root. -/
theorem root_first {q s : List It} {x : It} (h : HeapN q q.length) (hp : q.Perm (x :: s)) (hs : (x :: s).Pairwise Bef) : it q 0 = x := by
  have hl := hp.length_eq
  rw [List.length_cons] at hl
  have h0 : it q 0 ∈ x :: s := hp.mem_iff.1 (it_mem (by omega))
  have hx : x ∈ q := hp.mem_iff.2 List.mem_cons_self
  obtain ⟨k, hk⟩ := List.getElem?_of_mem hx
  have hr := h.root k (List.getElem?_eq_some_iff.1 hk).1
  rw [it_get hk] at hr
  rcases List.mem_cons.1 h0 with e | e
  · exact e
  · exact absurd ((List.pairwise_cons.1 hs).1 _ e) hr
/-- The last one is taken out. -/
theorem last_out {q s : List It} {x : It} {n : Nat} (hl : q.length = n + 1) (hx : it q n = x) (hp : q.Perm (x :: s)) : (q.take n).Perm s := by
  have e : q = q.take n ++ [x] := by
    conv => lhs; rw [← List.take_append_drop n q]
    congr 1
    have h1 : q[n]? = some x := by rw [it_some (by omega), hx]
    rw [List.drop_eq_getElem_cons (by omega)]
    rw [List.getElem?_eq_getElem (by omega)] at h1
    have h2 : q.drop (n + 1) = [] := List.drop_eq_nil_of_le (by omega)
    rw [h2, Option.some.inj h1]
  rw [e] at hp
  have h2 : (x :: q.take n).Perm (x :: s) := (List.perm_append_singleton x (q.take n)).symm.trans hp
  exact h2.cons_inv
theorem heap_take {q : List It} {n : Nat} (h : HeapN q n) : HeapN (q.take n) n := fun k k0 kn => by
  have hp := par_lt k0
  have e : ∀ j, j < n → it (q.take n) j = it q j := fun j hj => by
    unfold it; rw [List.getD_eq_getElem?_getD, List.getElem?_take, if_pos hj, List.getD_eq_getElem?_getD]
  rw [e k kn, e _ (by omega)]
  exact h k k0 kn

/-! Where each ID stands. -/
def IdsApart (q : List It) : Prop := (q.map Prod.fst).Nodup
theorem IdsApart.perm {q r : List It} (h : IdsApart q) (hp : q.Perm r) : IdsApart r := (hp.map Prod.fst).nodup_iff.1 h
theorem IdsApart.inj {q : List It} (h : IdsApart q) {i j : Nat} (hi : i < q.length) (hj : j < q.length) (e : (it q i).1 = (it q j).1) : i = j := by
  have h1 : (q.map Prod.fst)[i]? = some (it q i).1 := by rw [List.getElem?_map, it_some hi]; rfl
  have h2 : (q.map Prod.fst)[j]? = some (it q j).1 := by rw [List.getElem?_map, it_some hj]; rfl
  have h3 := (List.getElem?_inj (by simpa using hi) h).1 (h1.trans (by rw [e]; exact h2.symm))
  exact h3
/-- The place of an ID. -/
def plc (q : List It) (z : Int) : Option Nat := q.findIdx? fun x => x.1 == z
theorem plc_some {q : List It} (h : IdsApart q) {z : Int} {k : Nat} : plc q z = some k ↔ k < q.length ∧ (it q k).1 = z := by
  unfold plc
  rw [List.findIdx?_eq_some_iff_getElem]
  constructor
  · rintro ⟨hk, h1, -⟩
    refine ⟨hk, ?_⟩
    rw [it_get (List.getElem?_eq_getElem hk)]
    simpa using h1
  · rintro ⟨hk, e⟩
    rw [it_get (List.getElem?_eq_getElem hk)] at e
    refine ⟨hk, by simpa using e, fun j hj => ?_⟩
    intro h2
    have h3 : (it q j).1 = (it q k).1 := by
      rw [it_get (List.getElem?_eq_getElem (by omega)), it_get (List.getElem?_eq_getElem hk), e]
      simpa using h2
    have := h.inj (by omega) hk h3
    omega
theorem plc_none {q : List It} {z : Int} : plc q z = none ↔ ∀ x ∈ q, x.1 ≠ z := by
  unfold plc
  rw [List.findIdx?_eq_none_iff]
  constructor
  · intro h x hx e; have := h x hx; simp [e] at this
  · intro h x hx; simpa using h x hx

end Go.Proofs.Ytcgfechodbmimaa
