/-
  A slice of Stands that came in; one of them in a variable of its own; One behind a Put.
-/
import Derived.Test.YtdongghjchnpbaaRxD
import Derived.Deep.Slices
import Derived.ChangeSlices
import Derived.OpenShut
import Derived.Deep.MidRow
import Derived.Laws.Rows
namespace Go.Proofs.Ytdongghjchnpbaa
open Go.RowKit Go.ChangeShapes Go.Deep
set_option linter.unusedVariables false

/-- What the walk is told of a slice of Stands that came in. -/
def IsStands (w : World) (a : Option Addr) (len cap : Nat) : Prop :=
  (a = none ∧ len = 0 ∧ cap = 0) ∨
  ∃ x, a = some x ∧ len ≤ cap ∧ cap ≤ maxLen ∧ ∀ r, r < len → ∃ (d n : Int),
    w.cell? (x.add (r * 2)) = some (.int .u8 d) ∧ (Lit.int .u8 d).wf = true ∧ w.cell? (x.add (r * 2 + 1)) = some (.int .u16 n) ∧ (Lit.int .u16 n).wf = true

theorem IsStands.bounds {w : World} {a : Option Addr} {len cap : Nat} (h : IsStands w a len cap) : len ≤ cap ∧ cap ≤ 9223372036854775807 := by
  rcases h with ⟨rfl, rfl, rfl⟩ | ⟨x, rfl, h1, h2, _⟩
  · exact ⟨Nat.le_refl _, by omega⟩
  · unfold maxLen at h2
    exact ⟨h1, by omega⟩

abbrev scells (d n : Nat) : Array Value := #[.int .u8 (d : Nat), .int .u16 (n : Nat)]

theorem IsStands.at {w : World} {a : Option Addr} {len cap : Nat} (h : IsStands w a len cap) (j : Nat) (hj : j < len) :
    ∃ b off, a = some ⟨b, off, none⟩ ∧ b < w.heap.size ∧ ∃ (d n : Nat), w.rangeAt b (off + j * 2) (scells d n).toList ∧ d < 256 ∧ n < 65536 := by
  rcases h with ⟨_, rfl, _⟩ | ⟨x, rfl, h1, h2, hr⟩
  · omega
  · obtain ⟨b, off, spot⟩ := x
    obtain ⟨d, n, c0, wd, c1, wn⟩ := hr j hj
    obtain ⟨_, _, k0, _⟩ := hr 0 (by omega)
    have hs : spot = none := by simpa [Addr.add] using World.cell?_spot k0
    subst hs
    have hb : b < w.heap.size := by
      have := World.block_lt_of_cell? _ _ k0
      simpa [Addr.add] using this
    have bd := bounds_u8 wd
    have bn := bounds_u16 wn
    obtain ⟨d, rfl⟩ := Int.eq_ofNat_of_zero_le (show 0 ≤ d by omega)
    obtain ⟨n, rfl⟩ := Int.eq_ofNat_of_zero_le (show 0 ≤ n by omega)
    rw [Addr.add_lit] at c0 c1
    refine ⟨b, off, rfl, hb, d, n, fun i v hv => ?_, by omega, by omega⟩
    have hi : i < 2 := by
      have := (List.getElem?_eq_some_iff.1 hv).1
      simpa using this
    rw [Nat.add_assoc]
    match i, hi, hv with
    | 0, _, e => exact c0.trans e
    | 1, _, e => exact c1.trans e

theorem IsStands.below {w w' : World} {a : Option Addr} {len cap : Nat} (h : IsStands w a len cap) (hb : Below w.heap.size w w') : IsStands w' a len cap := by
  rcases h with h | ⟨x, rfl, h1, h2, hr⟩
  · exact .inl h
  · refine .inr ⟨x, rfl, h1, h2, fun r hr' => ?_⟩
    obtain ⟨d, n, c0, wd, c1, wn⟩ := hr r hr'
    refine ⟨d, n, ?_, wd, ?_, wn⟩
    · rw [hb.cell (World.block_lt_of_cell? _ _ c0)]; exact c0
    · rw [hb.cell (World.block_lt_of_cell? _ _ c1)]; exact c1

theorem fit_all {m : Mx} {i : Nat} {l : List Nat} (h : m.fit i l = true) : ∀ n ∈ l, m.c (16 * i + n) = 0 := by
  intro n hn
  unfold Mx.fit at h
  rw [List.all_eq_true] at h
  simpa using h n hn

theorem rising_nodup {l : List Nat} (h : l.Pairwise (· < ·)) : l.Nodup := h.imp fun h => by omega

/-- Who has which nodes, behind a Put. -/
theorem stand_own {m : Mx} {i j : Nat} {l : List Nat} (hn : m.n ≤ 16) (hj : j ≠ 0) (hl : OkL m.n l) (hw : m.where j = none) (hf : m.fit i l = true) (hi : i < m.r) {i' j' : Nat} (hi' : i' < m.r) (hj' : j' ≠ 0) :
    (m.stand i l j).own i' j' = if j' = j then (if i' = i then l else []) else m.own i' j' := by
  have hl16 : ∀ n ∈ l, n < 16 := fun n hn' => by have := hl.lt n hn'; omega
  have hno := Mx.where_none hw hj
  by_cases e : j' = j
  · subst e
    rw [if_pos rfl]
    by_cases ei : i' = i
    · subst ei
      rw [if_pos rfl]
      have h1 : (m.stand i' l j').own i' j' = (List.range m.n).filter (fun k => decide (k ∈ l)) := by
        unfold Mx.own Mx.at
        rw [Mx.stand_n]
        apply List.filter_congr
        intro k hk
        rw [List.mem_range] at hk
        rw [Mx.stand_cell _ _ _ _ _ _ hl16 (by omega)]
        by_cases hk2 : k ∈ l
        · rw [if_pos ⟨rfl, hk2⟩]; simp [hk2]
        · rw [if_neg (fun h => hk2 h.2)]
          have : m.c (16 * i' + k) ≠ j' := fun h => by
            have h2 : k ∈ m.own i' j' := own_mem.2 ⟨hk, h⟩
            rw [hno i' hi] at h2; cases h2
          simp [hk2, this]
      rw [h1]
      refine filter_sub ?_ List.nodup_range
      have h2 : l.Sublist (List.range m.n) := by
        have h3 := hl.rising
        have h4 : (List.range m.n).filter (fun k => decide (k ∈ l)) = l := by
          apply List.Perm.eq_of_pairwise (le := fun a b => decide (a < b) = true) (fun a b _ _ h1 h2 => by simp at h1 h2; omega)
          · exact List.Pairwise.imp (by intro a b h; simpa using h) (List.Pairwise.sublist List.filter_sublist List.pairwise_lt_range)
          · exact h3.imp (by intro a b h; simpa using h)
          · refine (List.perm_ext_iff_of_nodup (List.Nodup.sublist List.filter_sublist List.nodup_range) (rising_nodup h3)).2 fun a => ?_
            simp only [List.mem_filter, List.mem_range, decide_eq_true_eq]
            exact ⟨fun h => h.2, fun h => ⟨hl.lt a h, h⟩⟩
        rw [← h4]
        exact List.filter_sublist
      exact h2
    · rw [if_neg ei]
      refine own_nil fun k hk => ?_
      rw [Mx.stand_n] at hk
      rw [Mx.stand_cell _ _ _ _ _ _ hl16 (by omega), if_neg (fun h => ei h.1)]
      intro h
      have h2 : k ∈ m.own i' j' := own_mem.2 ⟨hk, h⟩
      rw [hno i' hi'] at h2; cases h2
  · rw [if_neg e]
    refine own_eq (Mx.stand_n _ _ _ _) fun k hk => ?_
    rw [Mx.stand_cell _ _ _ _ _ _ hl16 (by omega)]
    by_cases h1 : i' = i ∧ k ∈ l
    · rw [if_pos h1]
      have := fit_all hf k h1.2
      rw [h1.1, this]
      exact ⟨fun h => absurd h.symm e, fun h => absurd h.symm hj'⟩
    · rw [if_neg h1]

theorem One.stand {m : Mx} {i j : Nat} {l : List Nat} (ho : One m) (hn : m.n ≤ 16) (hj : j ≠ 0) (hl : OkL m.n l) (hw : m.where j = none) (hf : m.fit i l = true) (hi : i < m.r) : One (m.stand i l j) := by
  intro j' a b hj' ha hb h h'
  rw [Mx.stand_r] at ha hb
  rw [stand_own hn hj hl hw hf hi ha hj'] at h
  rw [stand_own hn hj hl hw hf hi hb hj'] at h'
  by_cases e : j' = j
  · rw [if_pos e] at h h'
    by_cases e1 : a = i
    · by_cases e2 : b = i
      · rw [e1, e2]
      · rw [if_neg e2] at h'; exact absurd rfl h'
    · rw [if_neg e1] at h; exact absurd rfl h
  · rw [if_neg e] at h h'
    exact ho j' a b hj' ha hb h h'

theorem One.putM {m : Mx} {j : Nat} {row : Int} {l : List Int} (ho : One m) (hn : m.n ≤ 16) : One (m.putM j row l) := by
  rcases put_cases m j row l with ⟨_, _, hM⟩ | ⟨i, k, hj, rfl, hi, rfl, hk, h3⟩
  · rw [hM]; exact ho
  · rcases h3 with ⟨_, _, hM⟩ | ⟨_, _, _, hM⟩ | ⟨hw, hf, _, hM⟩
    · rw [hM]; exact ho
    · rw [hM]; exact ho
    · rw [hM]; exact ho.stand hn hj hk hw hf hi

theorem putM_r (m : Mx) (j : Nat) (row : Int) (l : List Int) : (m.putM j row l).r = m.r := by
  unfold Mx.putM; split
  · exact Mx.stand_r _ _ _ _
  · rfl
theorem putM_n (m : Mx) (j : Nat) (row : Int) (l : List Int) : (m.putM j row l).n = m.n := by
  unfold Mx.putM; split
  · exact Mx.stand_n _ _ _ _
  · rfl

theorem One.turn {m : Mx} {k : Nat} {u : Bool} (ho : One m) : One (m.turn k u) := ho

end Go.Proofs.Ytdongghjchnpbaa
