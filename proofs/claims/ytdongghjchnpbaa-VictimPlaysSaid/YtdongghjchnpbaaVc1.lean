/-
  Victim, plainly: who goes, in which order; the least harm.
  Layer 15: a slice of Stands that came in; one of them in a variable of its own.
  Layer 15: Cands in memory.
  cmp.Compare, cmp.Or.
  Victim: numbers, greatest, harm, cells.
  slices.SortFunc of Cands: the library's contract, laid.
  Victim: where a job is among Cands; below, leaving, Of.
  Victim: leaving, Of, Choose.
  Victim: Choose.
-/
import Derived.Test.YtdongghjchnpbaaRowU
import Derived.Test.YtdongghjchnpbaaRxD
import Derived.Deep.Slices
import Derived.ChangeSlices
import Derived.OpenShut
import Derived.Deep.MidRow
import Derived.Laws.Rows
import Derived.Test.YtdongghjchnpbaaAppR
import Derived.WalkSpells
import Derived.WalkLawsBesides
import Derived.Deep.RegionHeld3
import Derived.Deep.QuietTactic
import Derived.BigQuiet
import Derived.Test.YtdongghjchnpbaaShfA
import Derived.Shelf.SlSortCmp.NoneTotal
namespace Go.Proofs.Ytdongghjchnpbaa
open Go.RowKit
set_option linter.unusedVariables false

/-- A job, and its tier. -/
abbrev Cd := Nat × Nat

/-- a goes ahead of b. -/
def CBef (a b : Cd) : Prop := a.2 < b.2 ∨ a.2 = b.2 ∧ b.1 < a.1
instance (a b : Cd) : Decidable (CBef a b) := inferInstanceAs (Decidable (_ ∨ _ ∧ _))

theorem cbef_irr (a : Cd) : ¬ CBef a a := by unfold CBef; omega
theorem cbef_asym {a b : Cd} (h : CBef a b) : ¬ CBef b a := by unfold CBef at *; omega
theorem cbef_trans {a b c : Cd} (h : CBef a b) (k : CBef b c) : CBef a c := by unfold CBef at *; omega
theorem cbef_ntrans {a b c : Cd} (h : ¬ CBef a b) (k : ¬ CBef b c) : ¬ CBef a c := by unfold CBef at *; omega
theorem cbef_total {a b : Cd} (h : a ≠ b) : CBef a b ∨ CBef b a := by
  by_cases h1 : a.1 = b.1
  · have h2 : a.2 ≠ b.2 := fun e => h (Prod.ext h1 e)
    unfold CBef; omega
  · unfold CBef; omega

def sortC (q : List Cd) : List Cd := q.mergeSort fun x y => !decide (CBef y x)
theorem sortC_perm (q : List Cd) : (sortC q).Perm q := List.mergeSort_perm _ _
theorem sortC_len (q : List Cd) : (sortC q).length = q.length := (sortC_perm q).length_eq
theorem sortC_sorted {q : List Cd} (h : q.Nodup) : (sortC q).Pairwise CBef := by
  have hs : (sortC q).Pairwise (fun a b => (!decide (CBef b a)) = true) := List.pairwise_mergeSort (fun a b c h1 h2 => by
    simp only [Bool.not_eq_true', decide_eq_false_iff_not] at *
    exact cbef_ntrans h2 h1) (fun a b => by
    simp only [Bool.or_eq_true, Bool.not_eq_true', decide_eq_false_iff_not]
    by_cases hb : CBef b a
    · exact .inr (cbef_asym hb)
    · exact .inl hb) q
  have hnd : (sortC q).Pairwise (fun a b => a ≠ b) := (sortC_perm q).symm.nodup h
  refine (hs.and hnd).imp ?_
  rintro a b ⟨h1, h2⟩
  simp only [Bool.not_eq_true', decide_eq_false_iff_not] at h1
  rcases cbef_total h2 with hb | hb
  · exact hb
  · exact absurd hb h1

/-- What is said of a job first. -/
def firstC (l : List Cd) (j : Nat) : Option Cd := l.find? fun c => c.1 == j
def lowC (l : List Cd) (tier j : Nat) : Option Cd := match firstC l j with | some c => if c.2 < tier then some c else none | none => none
/-- Who stands in a row and is below the tier; these in the order in which they go. -/
def Mx.lows (m : Mx) (row : Nat) (l : List Cd) (tier : Nat) : List Cd := (m.row row).filterMap (lowC l tier)
def Mx.who (m : Mx) (row : Nat) (l : List Cd) (tier : Nat) : List Cd := sortC (m.lows row l tier)
/-- How many cells a job has at nodes that are up. -/
def Mx.upN (m : Mx) (row j : Nat) : Nat := ((m.own row j).filter fun k => !m.d k).length
def Mx.cnt (m : Mx) (j : Nat) : Nat := match m.where j with | some r => m.upN r j | none => 0
def Mx.sumC (m : Mx) (q : List Cd) : Nat := (q.map fun c => m.cnt c.1).sum

theorem lowC_some {l : List Cd} {tier j : Nat} {c : Cd} (h : lowC l tier j = some c) : c ∈ l ∧ c.1 = j ∧ c.2 < tier := by
  unfold lowC at h
  cases e : firstC l j with
  | none => rw [e] at h; cases h
  | some d =>
    rw [e] at h
    simp only at h
    split at h
    · cases h
      unfold firstC at e
      exact ⟨List.mem_of_find?_eq_some e, by simpa using List.find?_some e, by assumption⟩
    · cases h

theorem Mx.sumC_nil (m : Mx) : m.sumC [] = 0 := rfl
theorem Mx.sumC_cons (m : Mx) (c : Cd) (q : List Cd) : m.sumC (c :: q) = m.cnt c.1 + m.sumC q := by simp [Mx.sumC]
theorem Mx.sumC_snoc (m : Mx) (q : List Cd) (c : Cd) : m.sumC (q ++ [c]) = m.sumC q + m.cnt c.1 := by simp [Mx.sumC]

/-- Who goes so that there is room for k, of these one behind the other. -/
def Mx.lv (m : Mx) (k : Int) : Nat → List Cd → Option (List Cd)
  | room, [] => if (room : Int) < k then none else some []
  | room, c :: r => if (room : Int) < k then (m.lv k (room + m.cnt c.1) r).map (c :: ·) else some []

theorem Mx.lv_some {m : Mx} {k : Int} : ∀ {who : List Cd} {room : Nat} {q : List Cd}, m.lv k room who = some q → ∃ n, n ≤ who.length ∧ q = who.take n ∧ k ≤ ((room + m.sumC (who.take n) : Nat) : Int) ∧ ∀ i, i < n → ((room + m.sumC (who.take i) : Nat) : Int) < k
  | [], room, q, h => by
    unfold Mx.lv at h
    split at h
    · cases h
    · cases h
      exact ⟨0, Nat.le_refl _, rfl, by simp only [List.take_nil, Mx.sumC_nil]; omega, fun i hi => by omega⟩
  | c :: r, room, q, h => by
    unfold Mx.lv at h
    split at h
    · rename_i hlt
      cases e : m.lv k (room + m.cnt c.1) r with
      | none => rw [e] at h; cases h
      | some p =>
        rw [e] at h
        simp only [Option.map_some, Option.some.injEq] at h
        obtain ⟨n, h1, h2, h3, h4⟩ := Mx.lv_some e
        refine ⟨n + 1, by simpa using h1, by rw [← h, h2]; rfl, ?_, ?_⟩
        · rw [List.take_succ_cons, Mx.sumC_cons]; omega
        · intro i hi
          cases i with
          | zero => rw [List.take_zero, Mx.sumC_nil]; omega
          | succ i =>
            have := h4 i (by omega)
            rw [List.take_succ_cons, Mx.sumC_cons]; omega
    · cases h
      exact ⟨0, by simp, rfl, by rw [List.take_zero, Mx.sumC_nil]; omega, fun i hi => by omega⟩

theorem Mx.lv_none {m : Mx} {k : Int} : ∀ {who : List Cd} {room : Nat}, m.lv k room who = none → ∀ i, i ≤ who.length → ((room + m.sumC (who.take i) : Nat) : Int) < k
  | [], room, h, i, hi => by
    unfold Mx.lv at h
    split at h
    · rw [List.take_nil, Mx.sumC_nil]; omega
    · cases h
  | c :: r, room, h, i, hi => by
    unfold Mx.lv at h
    split at h
    · cases e : m.lv k (room + m.cnt c.1) r with
      | some p => rw [e] at h; cases h
      | none =>
        cases i with
        | zero => rw [List.take_zero, Mx.sumC_nil]; omega
        | succ i =>
          have := Mx.lv_none e i (by simpa using hi)
          rw [List.take_succ_cons, Mx.sumC_cons]; omega
    · cases h

theorem Mx.lv_of {m : Mx} {k : Int} {who : List Cd} {room n : Nat} (hn : n ≤ who.length) (h1 : k ≤ ((room + m.sumC (who.take n) : Nat) : Int)) (h2 : ∀ i, i < n → ((room + m.sumC (who.take i) : Nat) : Int) < k) : m.lv k room who = some (who.take n) := by
  cases e : m.lv k room who with
  | none => exact absurd (Mx.lv_none e n hn) (by omega)
  | some q =>
    obtain ⟨n', h3, rfl, h4, h5⟩ := Mx.lv_some e
    rcases Nat.lt_trichotomy n n' with h | h | h
    · exact absurd (h5 n h) (by omega)
    · rw [h]
    · exact absurd (h2 n' h) (by omega)

theorem Mx.lv_of_none {m : Mx} {k : Int} {who : List Cd} {room : Nat} (h : ∀ i, i ≤ who.length → ((room + m.sumC (who.take i) : Nat) : Int) < k) : m.lv k room who = none := by
  cases e : m.lv k room who with
  | none => rfl
  | some q =>
    obtain ⟨n', h3, -, h4, -⟩ := Mx.lv_some e
    exact absurd (h n' h3) (by omega)

/-- Who has to go of a row. -/
def Mx.leave (m : Mx) (row : Nat) (l : List Cd) (tier : Nat) (k : Int) : Option (List Cd) := if k < 1 then none else m.lv k (m.free row).length (m.who row l tier)

theorem Mx.who_len (m : Mx) (row : Nat) (l : List Cd) (tier : Nat) : (m.who row l tier).length ≤ m.n := by
  unfold Mx.who
  rw [sortC_len]
  refine Nat.le_trans (List.length_filterMap_le _ _) ?_
  refine Nat.le_trans (jobs_len _ _) ?_
  exact m.at_len _

theorem Mx.leave_sub {m : Mx} {row : Nat} {l : List Cd} {tier : Nat} {k : Int} {q : List Cd} (h : m.leave row l tier k = some q) : ∃ n, n ≤ (m.who row l tier).length ∧ q = (m.who row l tier).take n := by
  unfold Mx.leave at h
  split at h
  · cases h
  · obtain ⟨n, h1, h2, -⟩ := Mx.lv_some h
    exact ⟨n, h1, h2⟩

theorem Mx.leave_len {m : Mx} {row : Nat} {l : List Cd} {tier : Nat} {k : Int} {q : List Cd} (h : m.leave row l tier k = some q) : q.length ≤ m.n := by
  obtain ⟨n, h1, rfl⟩ := Mx.leave_sub h
  have := m.who_len row l tier
  rw [List.length_take]; omega

/-- The greatest tier of those who go. -/
def grC (q : List Cd) : Int := match q.getLast? with | none => -1 | some c => c.2
def Harm (q p : List Cd) : Prop := q.length < p.length ∨ q.length = p.length ∧ grC q < grC p
instance (q p : List Cd) : Decidable (Harm q p) := inferInstanceAs (Decidable (_ ∨ _ ∧ _))

def step15 (f : Nat → Option (List Cd)) (best : Option (Nat × List Cd)) (row : Nat) : Option (Nat × List Cd) :=
  match f row with
  | none => best
  | some q => match best with
    | none => some (row, q)
    | some p => if Harm q p.2 then some (row, q) else some p

def best15 (f : Nat → Option (List Cd)) (r : Nat) : Option (Nat × List Cd) := (List.range r).foldl (step15 f) none

theorem best15_succ (f : Nat → Option (List Cd)) (r : Nat) : best15 f (r + 1) = step15 f (best15 f r) r := by
  unfold best15
  rw [List.range_succ, List.foldl_append]; rfl

theorem best15_none {f : Nat → Option (List Cd)} : ∀ {r : Nat}, best15 f r = none → ∀ i, i < r → f i = none
  | 0, _, i, hi => by omega
  | r + 1, h, i, hi => by
    rw [best15_succ] at h
    unfold step15 at h
    cases e : f r with
    | none =>
      rw [e] at h
      by_cases hr : i = r
      · rw [hr]; exact e
      · exact best15_none h i (by omega)
    | some q =>
      rw [e] at h
      simp only at h
      split at h
      · cases h
      · split at h <;> cases h

theorem best15_some {f : Nat → Option (List Cd)} : ∀ {r b : Nat} {p : List Cd}, best15 f r = some (b, p) → b < r ∧ f b = some p ∧ ∀ i, i < r → ∀ q, f i = some q → p.length ≤ q.length
  | 0, b, p, h => by cases h
  | r + 1, b, p, h => by
    rw [best15_succ] at h
    unfold step15 at h
    cases e : f r with
    | none =>
      rw [e] at h
      obtain ⟨h1, h2, h3⟩ := best15_some h
      refine ⟨by omega, h2, fun i hi q hq => ?_⟩
      by_cases hr : i = r
      · rw [hr, e] at hq; cases hq
      · exact h3 i (by omega) q hq
    | some q =>
      rw [e] at h
      simp only at h
      cases e2 : best15 f r with
      | none =>
        rw [e2] at h
        simp only [Option.some.injEq, Prod.mk.injEq] at h
        obtain ⟨rfl, rfl⟩ := h
        refine ⟨by omega, e, fun i hi q' hq => ?_⟩
        by_cases hr : i = r
        · rw [hr, e] at hq; cases hq; exact Nat.le_refl _
        · rw [best15_none e2 i (by omega)] at hq; cases hq
      | some p0 =>
        obtain ⟨b0, p0⟩ := p0
        obtain ⟨h1, h2, h3⟩ := best15_some e2
        rw [e2] at h
        simp only at h
        split at h
        · rename_i hh
          simp only [Option.some.injEq, Prod.mk.injEq] at h
          obtain ⟨rfl, rfl⟩ := h
          refine ⟨by omega, e, fun i hi q' hq => ?_⟩
          by_cases hr : i = r
          · rw [hr, e] at hq; cases hq; exact Nat.le_refl _
          · have := h3 i (by omega) q' hq
            unfold Harm at hh; omega
        · rename_i hh
          simp only [Option.some.injEq, Prod.mk.injEq] at h
          obtain ⟨rfl, rfl⟩ := h
          refine ⟨by omega, h2, fun i hi q' hq => ?_⟩
          by_cases hr : i = r
          · rw [hr, e] at hq; cases hq
            unfold Harm at hh; omega
          · exact h3 i (by omega) q' hq

end Go.Proofs.Ytdongghjchnpbaa

namespace Go.Proofs.Ytdongghjchnpbaa
open Go.RowKit Go.ChangeShapes Go.Deep
set_option linter.unusedVariables false

/-- What the walk is told of a slice of Stands that came in. -/
def IsSt15 (w : World) (a : Option Addr) (len cap : Nat) : Prop :=
  (a = none ∧ len = 0 ∧ cap = 0) ∨
  ∃ x, a = some x ∧ len ≤ cap ∧ cap ≤ maxLen ∧ ∀ r, r < len → ∃ (d n t : Int) (b : Bool),
    w.cell? (x.add (r * 4)) = some (.int .u8 d) ∧ (Lit.int .u8 d).wf = true ∧ w.cell? (x.add (r * 4 + 1)) = some (.int .u16 n) ∧ (Lit.int .u16 n).wf = true ∧ w.cell? (x.add (r * 4 + 2)) = some (.int .u8 t) ∧ (Lit.int .u8 t).wf = true ∧ w.cell? (x.add (r * 4 + 3)) = some (.bool b)

set_option maxRecDepth 100000 in
theorem isSt15_of {H : Type} {enc : TypeId × Value → H} {w : World} {base : Nat} {held : Bool} {a : Option Addr} {len cap : Nat} {d : DataW H} {p : List MemPlace}
    (h : DataW.Trod enc Try.prog w base (fun _ => true) held 54 (.slice a len cap) d p) : IsSt15 w a len cap := by
  obtain ⟨fuel, hf⟩ := h
  rcases open_slice Try.underlying54 hf with ⟨hcs, _⟩ | ⟨x, l, c, m, n, D, Pl, hcs, _, hl, hm, hmm, _, hi⟩
  · simp [Value.cells] at hcs
    obtain ⟨rfl, rfl, rfl⟩ := hcs
    exact .inl ⟨rfl, rfl, rfl⟩
  · simp [Value.cells] at hcs
    obtain ⟨rfl, rfl, rfl⟩ := hcs
    refine .inr ⟨x, rfl, hl, hm, fun r hr => ?_⟩
    have h3 : Try.prog.cellsOf 74 = 4 := by kernel_rfl
    have h5 : Try.prog.cellsOf 5 = 1 := by kernel_rfl
    have h6 : Try.prog.cellsOf 55 = 1 := by kernel_rfl
    have h7 : Try.prog.cellsOf 4 = 1 := by kernel_rfl
    simp only [if_true] at hmm
    obtain ⟨cs', hc, ht'⟩ := hi r (by omega)
    rw [h3] at hc
    obtain ⟨_, hcl, hat⟩ := World.cells?_some hc
    obtain ⟨xs, n', _, _, _, hxl, hfld⟩ := DataW.trod_struct Try.underlying74 ht'
    have f0 : DataW.trod enc Try.prog w base (fun _ => true) held n' 5 ((cs'.drop 0).take (Try.prog.cellsOf 5)) = xs[0]? := hfld 0 _ rfl
    have f1 : DataW.trod enc Try.prog w base (fun _ => true) held n' 55 ((cs'.drop 1).take (Try.prog.cellsOf 55)) = xs[1]? := hfld 1 _ rfl
    have f2 : DataW.trod enc Try.prog w base (fun _ => true) held n' 5 ((cs'.drop 2).take (Try.prog.cellsOf 5)) = xs[2]? := hfld 2 _ rfl
    have f3 : DataW.trod enc Try.prog w base (fun _ => true) held n' 4 ((cs'.drop 3).take (Try.prog.cellsOf 4)) = xs[3]? := hfld 3 _ rfl
    rw [h5] at f0 f2
    rw [h6] at f1
    rw [h7] at f3
    match cs', hcl with
    | [c0, c1, c2, c3], _ =>
      match xs, hxl with
      | [y0, y1, y2, y3], _ =>
        obtain ⟨d0, e0, _, wf0⟩ := DataW.trod_int Try.underlying5 (show _ = some y0 from f0)
        obtain ⟨d1, e1, _, wf1⟩ := DataW.trod_int Try.underlying55 (show _ = some y1 from f1)
        obtain ⟨d2, e2, _, wf2⟩ := DataW.trod_int Try.underlying5 (show _ = some y2 from f2)
        obtain ⟨d3, e3, _⟩ := DataW.trod_bool Try.underlying4 (show _ = some y3 from f3)
        simp at e0 e1 e2 e3
        subst e0
        subst e1
        subst e2
        subst e3
        have c0 := hat 0 (by omega)
        have c1 := hat 1 (by omega)
        have c2 := hat 2 (by omega)
        have c3 := hat 3 (by omega)
        rw [add_add] at c0 c1 c2 c3
        exact ⟨d0, d1, d2, d3, by simpa using c0, wf0, by simpa using c1, wf1, by simpa using c2, wf2, by simpa using c3⟩

theorem IsSt15.bounds {w : World} {a : Option Addr} {len cap : Nat} (h : IsSt15 w a len cap) : len ≤ cap ∧ cap ≤ 9223372036854775807 := by
  rcases h with ⟨rfl, rfl, rfl⟩ | ⟨x, rfl, h1, h2, _⟩
  · exact ⟨Nat.le_refl _, by omega⟩
  · unfold maxLen at h2
    exact ⟨h1, by omega⟩

abbrev s15cells (d n t : Nat) (b : Bool) : Array Value := #[.int .u8 (d : Nat), .int .u16 (n : Nat), .int .u8 (t : Nat), .bool b]

theorem IsSt15.at {w : World} {a : Option Addr} {len cap : Nat} (h : IsSt15 w a len cap) (j : Nat) (hj : j < len) :
    ∃ b off, a = some ⟨b, off, none⟩ ∧ b < w.heap.size ∧ ∃ (d n t : Nat) (q : Bool), w.rangeAt b (off + j * 4) (s15cells d n t q).toList ∧ d < 256 ∧ n < 65536 ∧ t < 256 := by
  rcases h with ⟨_, rfl, _⟩ | ⟨x, rfl, h1, h2, hr⟩
  · omega
  · obtain ⟨b, off, spot⟩ := x
    obtain ⟨d, n, t, q, c0, wd, c1, wn, c2, wt, c3⟩ := hr j hj
    obtain ⟨_, _, _, _, k0, _⟩ := hr 0 (by omega)
    have hs : spot = none := by simpa [Addr.add] using World.cell?_spot k0
    subst hs
    have hb : b < w.heap.size := by
      have := World.block_lt_of_cell? _ _ k0
      simpa [Addr.add] using this
    have bd := bounds_u8 wd
    have bn := bounds_u16 wn
    have bt := bounds_u8 wt
    obtain ⟨d, rfl⟩ := Int.eq_ofNat_of_zero_le (show 0 ≤ d by omega)
    obtain ⟨n, rfl⟩ := Int.eq_ofNat_of_zero_le (show 0 ≤ n by omega)
    obtain ⟨t, rfl⟩ := Int.eq_ofNat_of_zero_le (show 0 ≤ t by omega)
    rw [Addr.add_lit] at c0 c1 c2 c3
    refine ⟨b, off, rfl, hb, d, n, t, q, fun i v hv => ?_, by omega, by omega, by omega⟩
    have hi : i < 4 := by
      have := (List.getElem?_eq_some_iff.1 hv).1
      simpa using this
    rw [Nat.add_assoc]
    match i, hi, hv with
    | 0, _, e => exact c0.trans e
    | 1, _, e => exact c1.trans e
    | 2, _, e => exact c2.trans e
    | 3, _, e => exact c3.trans e

/-- A Stand, plainly. -/
structure St15 where
  d : Nat
  n : Nat
  t : Nat
  q : Bool

/-- All of them, plainly. -/
def Std15 (w : World) (a : Option Addr) (len : Nat) (S : Nat → St15) : Prop :=
  ∀ j, j < len → ∃ b off, a = some ⟨b, off, none⟩ ∧ b < w.heap.size ∧ w.rangeAt b (off + j * 4) (s15cells (S j).d (S j).n (S j).t (S j).q).toList ∧ (S j).d < 256 ∧ (S j).n < 65536 ∧ (S j).t < 256

theorem IsSt15.all {w : World} {a : Option Addr} {len cap : Nat} (h : IsSt15 w a len cap) : ∃ S, Std15 w a len S := by
  have h1 : ∀ j, ∃ s : St15, j < len → ∃ b off, a = some ⟨b, off, none⟩ ∧ b < w.heap.size ∧ w.rangeAt b (off + j * 4) (s15cells s.d s.n s.t s.q).toList ∧ s.d < 256 ∧ s.n < 65536 ∧ s.t < 256 := by
    intro j
    by_cases hj : j < len
    · obtain ⟨b, off, h1, h2, d, n, t, q, h3⟩ := h.at j hj
      exact ⟨⟨d, n, t, q⟩, fun _ => ⟨b, off, h1, h2, h3⟩⟩
    · exact ⟨⟨0, 0, 0, false⟩, fun hj' => absurd hj' hj⟩
  exact ⟨fun j => Classical.choose (h1 j), fun j hj => Classical.choose_spec (h1 j) hj⟩

theorem Std15.below {w w' : World} {a : Option Addr} {len : Nat} {S : Nat → St15} (h : Std15 w a len S) (hb : Below w.heap.size w w') : Std15 w' a len S := fun j hj => by
  obtain ⟨b, off, h1, h2, h3, h4⟩ := h j hj
  exact ⟨b, off, h1, Nat.lt_of_lt_of_le h2 hb.size, fun i v hv => (hb.cell (p := ⟨b, off + j * 4 + i, none⟩) h2).trans (h3 i v hv), h4⟩

/-- Who may have to go, of the first so many. -/
def cands (S : Nat → St15) (k : Nat) : List Cd := (List.range k).filterMap fun i => if (S i).q then none else some (i + 1, (S i).t)
theorem cands_succ (S : Nat → St15) (k : Nat) : cands S (k + 1) = cands S k ++ (if (S k).q then [] else [(k + 1, (S k).t)]) := by
  unfold cands
  rw [List.range_succ, List.filterMap_append]
  cases h : (S k).q <;> simp [h]
theorem cands_mem {S : Nat → St15} {k : Nat} {c : Cd} : c ∈ cands S k ↔ ∃ i, i < k ∧ (S i).q = false ∧ c = (i + 1, (S i).t) := by
  unfold cands
  rw [List.mem_filterMap]
  constructor
  · rintro ⟨i, hi, h⟩
    rw [List.mem_range] at hi
    cases hq : (S i).q with
    | true => rw [hq] at h; cases h
    | false => rw [hq] at h; exact ⟨i, hi, hq, by simpa using h.symm⟩
  · rintro ⟨i, hi, hq, rfl⟩
    exact ⟨i, List.mem_range.2 hi, by rw [hq]; rfl⟩
theorem cands_len (S : Nat → St15) (k : Nat) : (cands S k).length ≤ k := by
  unfold cands
  exact Nat.le_trans (List.length_filterMap_le _ _) (by simp)

theorem size_st15 : (Try.prog.info? 74).map (·.size) = some 4 := by kernel_rfl

section
variable {w : World} {ops : Array Oper} {rest : List Oper} {o : Oper} {a : Act} {Q : Exit → Act → World → Prop}
theorem st15_fresh (hgd : o.guard = none) (x y : Operand) (ho : o.op = .store 74 x y)
    (W : World) (cs : Array Value) (hx : a.eval x = .pointer (some ⟨W.heap.size, 0, none⟩)) (hy : a.eval y = .agg cs) (hs : cs.size = 4) (h1 : cs.all (·.oneCell') = true)
    (h : ∀ w' : World, w'.heap[W.heap.size]? = some (.cells cs 74 (0, 0)) → Below W.heap.size W w' → wpList Try.prog ops Q rest (a.put o.dst undef) w') :
    wpList Try.prog ops Q (o :: rest) a (W.alloc (.cells #[.int .u8 0, .int .u16 0, .int .u8 0, .bool false] 74)) := by
  have e := heap_alloc_new W (.cells #[.int .u8 0, .int .u16 0, .int .u8 0, .bool false] 74)
  refine wpList_store_row hgd _ x y ho W.heap.size cs hx hy _ _ e (by rw [size_st15, hs]) (by rw [hs]; rfl) h1 ?_
  refine h _ (setRow_heap (W.alloc _) W.heap.size _ _ _ _ e) ?_
  exact ((Below.refl _ _).alloc (Nat.le_refl _) _).trans ⟨rfl, rfl, rfl, by simp, fun k hk => setRow_other _ _ _ _ (by omega)⟩
end

end Go.Proofs.Ytdongghjchnpbaa

namespace Go.Proofs.Ytdongghjchnpbaa
open Go.RowKit Go.Shelf
set_option linter.unusedVariables false

def ccel (c : Cd) : List Value := [.int .u32 (c.1 : Nat), .int .u8 (c.2 : Nat)]
def ccels (l : List Cd) : List Value := l.flatMap ccel
theorem ccels_snoc (l : List Cd) (c : Cd) : ccels (l ++ [c]) = ccels l ++ [.int .u32 (c.1 : Nat), .int .u8 (c.2 : Nat)] := by simp [ccels, ccel]
theorem infoCand : (Try.prog.info? 80).map (fun i => (i.zero, i.size, i.bytes)) = some (some (.agg #[.int .u32 0, .int .u8 0]), 2, 8) := by kernel_rfl
theorem infoRCand : (Try.prog.info? 104).map (fun i => (i.zero, i.size, i.bytes)) = some (some (.agg #[.int .u32 0, .int .u8 0]), 2, 8) := by kernel_rfl
theorem own_grown15 {w w' : World} {base : Nat} {e : TypeId} {size : Nat} {v : Value} {n : Nat} {xs : List Value} (h : w.ownsRow base e size v n xs) (hg : w.grownBy w' v.ownBlock) (hb : base ≤ w.heap.size) : KT [e] base w w' := by
  refine KT.of_keeps (Keeps.of_grown hg) (fun k _ hk => ?_) hb
  obtain ⟨cur, hc⟩ := owns_ty h k hk
  exact ⟨(World.ownsRow.lt h k hk).1, _, _, _, hc, by simp⟩

end Go.Proofs.Ytdongghjchnpbaa

namespace Go.Proofs.Ytdongghjchnpbaa
open Go.RowKit
set_option linter.unusedVariables false
set_option linter.unusedSimpArgs false

def cmp3 (a b : Int) : Int := if a < b then -1 else if b < a then 1 else 0
theorem nanb_any (a : Int) (w : World) : Calls Try.prog 97 #[.int .u8 a] w fun e w' => e = .returned (.bool false) ∧ w = w' := by
  go_enter Try.func97, Try.ntmps97
  go_wp2
  go_ret
  exact ⟨rfl, rfl⟩
set_option maxHeartbeats 1000000 in
theorem cmpb_any (a b : Int) (w : World) : Calls Try.prog 81 #[.int .u8 a, .int .u8 b] w fun e w' => e = .returned (.int .i64 (cmp3 a b)) ∧ w = w' := by
  rcases Int.lt_trichotomy a b with h | h | h
  · have H := hid (show cmp3 a b = -1 by unfold cmp3; rw [if_pos h])
    have d1 : decide (a < b) = true := decide_eq_true h
    go_enter Try.func81, Try.ntmps81
    go_wp2_with (first | (go_at_call 97; refine (nanb_any _ _).mono ?_; rintro e w' ⟨rfl, rfl⟩) | fail)
    go_ret
    rw [H.out]
    exact ⟨rfl, rfl⟩
  · subst h
    have H := hid (show cmp3 a a = 0 by unfold cmp3; rw [if_neg (Int.lt_irrefl a), if_neg (Int.lt_irrefl a)])
    go_enter Try.func81, Try.ntmps81
    go_wp2_with (first | (go_at_call 97; refine (nanb_any _ _).mono ?_; rintro e w' ⟨rfl, rfl⟩) | fail)
    go_ret
    rw [H.out]
    exact ⟨rfl, rfl⟩
  · have H := hid (show cmp3 a b = 1 by unfold cmp3; rw [if_neg (by omega), if_pos h])
    have d1 : decide (a < b) = false := decide_eq_false (by omega)
    have d2 : decide (b < a) = true := decide_eq_true h
    have d3 : decide (a > b) = true := decide_eq_true h
    go_enter Try.func81, Try.ntmps81
    go_wp2_with (first | (go_at_call 97; refine (nanb_any _ _).mono ?_; rintro e w' ⟨rfl, rfl⟩) | fail)
    go_ret
    rw [H.out]
    exact ⟨rfl, rfl⟩

theorem nanw_any (a : Int) (w : World) : Calls Try.prog 98 #[.int .u32 a] w fun e w' => e = .returned (.bool false) ∧ w = w' := by
  go_enter Try.func98, Try.ntmps98
  go_wp2
  go_ret
  exact ⟨rfl, rfl⟩
set_option maxHeartbeats 1000000 in
theorem cmpw_any (a b : Int) (w : World) : Calls Try.prog 82 #[.int .u32 a, .int .u32 b] w fun e w' => e = .returned (.int .i64 (cmp3 a b)) ∧ w = w' := by
  rcases Int.lt_trichotomy a b with h | h | h
  · have H := hid (show cmp3 a b = -1 by unfold cmp3; rw [if_pos h])
    have d1 : decide (a < b) = true := decide_eq_true h
    go_enter Try.func82, Try.ntmps82
    go_wp2_with (first | (go_at_call 98; refine (nanw_any _ _).mono ?_; rintro e w' ⟨rfl, rfl⟩) | fail)
    go_ret
    rw [H.out]
    exact ⟨rfl, rfl⟩
  · subst h
    have H := hid (show cmp3 a a = 0 by unfold cmp3; rw [if_neg (Int.lt_irrefl a), if_neg (Int.lt_irrefl a)])
    go_enter Try.func82, Try.ntmps82
    go_wp2_with (first | (go_at_call 98; refine (nanw_any _ _).mono ?_; rintro e w' ⟨rfl, rfl⟩) | fail)
    go_ret
    rw [H.out]
    exact ⟨rfl, rfl⟩
  · have H := hid (show cmp3 a b = 1 by unfold cmp3; rw [if_neg (by omega), if_pos h])
    have d1 : decide (a < b) = false := decide_eq_false (by omega)
    have d2 : decide (b < a) = true := decide_eq_true h
    have d3 : decide (a > b) = true := decide_eq_true h
    go_enter Try.func82, Try.ntmps82
    go_wp2_with (first | (go_at_call 98; refine (nanw_any _ _).mono ?_; rintro e w' ⟨rfl, rfl⟩) | fail)
    go_ret
    rw [H.out]
    exact ⟨rfl, rfl⟩

theorem nani_any (a : Int) (w : World) : Calls Try.prog 83 #[.int .i64 a] w fun e w' => e = .returned (.bool false) ∧ w = w' := by
  go_enter Try.func83, Try.ntmps83
  go_wp2
  go_ret
  exact ⟨rfl, rfl⟩
set_option maxHeartbeats 1000000 in
theorem cmpi_any (a b : Int) (w : World) : Calls Try.prog 67 #[.int .i64 a, .int .i64 b] w fun e w' => e = .returned (.int .i64 (cmp3 a b)) ∧ w = w' := by
  rcases Int.lt_trichotomy a b with h | h | h
  · have H := hid (show cmp3 a b = -1 by unfold cmp3; rw [if_pos h])
    have d1 : decide (a < b) = true := decide_eq_true h
    go_enter Try.func67, Try.ntmps67
    go_wp2_with (first | (go_at_call 83; refine (nani_any _ _).mono ?_; rintro e w' ⟨rfl, rfl⟩) | fail)
    go_ret
    rw [H.out]
    exact ⟨rfl, rfl⟩
  · subst h
    have H := hid (show cmp3 a a = 0 by unfold cmp3; rw [if_neg (Int.lt_irrefl a), if_neg (Int.lt_irrefl a)])
    go_enter Try.func67, Try.ntmps67
    go_wp2_with (first | (go_at_call 83; refine (nani_any _ _).mono ?_; rintro e w' ⟨rfl, rfl⟩) | fail)
    go_ret
    rw [H.out]
    exact ⟨rfl, rfl⟩
  · have H := hid (show cmp3 a b = 1 by unfold cmp3; rw [if_neg (by omega), if_pos h])
    have d1 : decide (a < b) = false := decide_eq_false (by omega)
    have d2 : decide (b < a) = true := decide_eq_true h
    have d3 : decide (a > b) = true := decide_eq_true h
    go_enter Try.func67, Try.ntmps67
    go_wp2_with (first | (go_at_call 83; refine (nani_any _ _).mono ?_; rintro e w' ⟨rfl, rfl⟩) | fail)
    go_ret
    rw [H.out]
    exact ⟨rfl, rfl⟩

theorem alloc_cellc (w : World) (q o : Nat) (c : Obj) (h : q < w.heap.size) : (w.alloc c).cell? ⟨q, o, none⟩ = w.cell? ⟨q, o, none⟩ := ((Below.refl _ _).alloc (Nat.le_refl _) c).cell (p := ⟨q, o, none⟩) h
theorem alloc_cellcd (w : World) (q o : Nat) (c : Obj) (h : q < w.heap.size) : (w.alloc c).drew.cell? ⟨q, o, none⟩ = w.drew.cell? ⟨q, o, none⟩ := ((Below.refl _ _).alloc (Nat.le_refl _) c).cell (p := ⟨q, o, none⟩) h
/-- The first that isn't 0. -/
def orL : List Int → Int
  | [] => 0
  | x :: l => if x ≠ 0 then x else orL l
theorem orL_drop {l : List Int} {k : Nat} {x : Int} (h : l[k]? = some x) : orL (l.drop k) = if x ≠ 0 then x else orL (l.drop (k + 1)) := by
  have hk := (List.getElem?_eq_some_iff.1 h).1
  rw [List.drop_eq_getElem_cons hk]
  rw [List.getElem?_eq_getElem hk] at h
  rw [Option.some.inj h]
  rfl
set_option maxRecDepth 100000 in
set_option maxHeartbeats 4000000 in
theorem or_grw (w : World) (g n : Nat) (l : List Int) (hn : n = l.length) (hl : n ≤ 1000) (h : ∀ k x, l[k]? = some x → w.cell? ⟨g, k, none⟩ = some (.int .i64 x)) :
    Calls Try.prog 66 #[.slice (some ⟨g, 0, none⟩) n n] w fun e w' => e = .returned (.int .i64 (orL l)) ∧ Below w.heap.size w w' ∧ w.drawn ≤ w'.drawn := by
  have HC := hid h
  have HN := hid hn
  clear h hn
  go_enter Try.func66, Try.ntmps66
  go_wp2_with fail
  go_loopw [8] (fun i wr => ∃ k : Nat, k ≤ n ∧ i = .int .i64 k ∧ orL (l.drop k) = orL l ∧ Below w.heap.size w wr ∧ w.drawn ≤ wr.drawn) (fun i _ => n - (intOf i).toNat)
  case atStart => exact ⟨0, Nat.zero_le _, rfl, rfl, Below.refl _ _, Nat.le_refl _⟩
  case round =>
    obtain ⟨k, hk, rfl, ho, hB, hdr⟩ := hrel
    have HDR := hid hdr
    clear hdr
    have HO := hid ho
    have HB := hid hB
    by_cases hlt : k < n
    · obtain ⟨x, hx⟩ : ∃ x, l[k]? = some x := ⟨_, List.getElem?_eq_getElem (by have := HN.out; omega)⟩
      have hc0 := HC.out k x hx
      have hc : wr.cell? ⟨g, k, none⟩ = some (.int .i64 x) := (hB.cell (p := ⟨g, k, none⟩) (World.block_lt_of_cell? _ _ hc0)).trans hc0
      have hki : (k : Int) < (n : Int) := by omega
      have HD := hid (orL_drop hx)
      clear hc0 ho hB hx
      by_cases h0 : x = 0
      · have d : decide (x = 0) = true := decide_eq_true h0
        have HD2 := hid (show orL (l.drop (k + 1)) = orL l by rw [← HO.out, HD.out, if_neg (by simpa using h0)])
        subst h0
        go_wp2_with fail
        go_roundw
        case rel => exact ⟨k + 1, hlt, by go_num, HD2.out, HB.out, HDR.out⟩
        case measure => simp [intOf]; omega
      · have d : (x != 0) = true := by simpa using h0
        have HD2 := hid (show x = orL l by rw [← HO.out, HD.out, if_pos h0])
        clear h0
        go_wp2_with fail
        go_ret
        exact ⟨by rw [← HD2.out]; rfl, HB.out, HDR.out⟩
    · have e : k = n := by omega
      have hki : ¬ (k : Int) < (n : Int) := by omega
      have HD2 := hid (show orL l = 0 by rw [← ho, e, HN.out, List.drop_length]; rfl)
      clear e hlt ho hB
      go_wp2_with fail
      go_ret
      exact ⟨by rw [HD2.out]; rfl, HB.out, HDR.out⟩

end Go.Proofs.Ytdongghjchnpbaa

namespace Go.Proofs.Ytdongghjchnpbaa
open Go.RowKit Go.Shelf
set_option linter.unusedVariables false
set_option linter.unusedSimpArgs false

def cndV (c : Cd) : Value := .agg #[.int .u32 (c.1 : Nat), .int .u8 (c.2 : Nat)]

/-- A row of Cands that is read. -/
def RdC (w : World) (v : Value) (q : List Cd) : Prop :=
  ∃ a c, v = .slice a q.length c ∧ q.length ≤ c ∧ c ≤ 9223372036854775807 ∧ ∀ (k : Nat) (x : Cd), q[k]? = some x → x.1 < 4294967296 ∧ x.2 < 256 ∧ ∃ g off, a = some ⟨g, off, none⟩ ∧ g < w.heap.size ∧ w.cell? ⟨g, off + k * 2, none⟩ = some (.int .u32 (x.1 : Nat)) ∧ w.cell? ⟨g, off + k * 2 + 1, none⟩ = some (.int .u8 (x.2 : Nat))

theorem RdC.nil (w : World) : RdC w (.slice none 0 0) [] := ⟨none, 0, rfl, Nat.le_refl _, by omega, fun k x h => by cases h⟩

theorem RdC.len {w : World} {v : Value} {q : List Cd} (h : RdC w v q) : ∃ a c, v = .slice a q.length c ∧ q.length ≤ c ∧ c ≤ 9223372036854775807 := by
  obtain ⟨a, c, h1, h2, h3, -⟩ := h
  exact ⟨a, c, h1, h2, h3⟩

theorem RdC.at {w : World} {a : Option Addr} {n c : Nat} {q : List Cd} (h : RdC w (.slice a n c) q) {k : Nat} {x : Cd} (hx : q[k]? = some x) : x.1 < 4294967296 ∧ x.2 < 256 ∧ ∃ g off, a = some ⟨g, off, none⟩ ∧ g < w.heap.size ∧ w.cell? ⟨g, off + k * 2, none⟩ = some (.int .u32 (x.1 : Nat)) ∧ w.cell? ⟨g, off + k * 2 + 1, none⟩ = some (.int .u8 (x.2 : Nat)) := by
  obtain ⟨a', c', e, _, _, h4⟩ := h
  simp only [Value.slice.injEq] at e
  obtain ⟨rfl, -, -⟩ := e
  exact h4 k x hx

theorem RdC.below {w w' : World} {v : Value} {q : List Cd} (h : RdC w v q) (hb : Below w.heap.size w w') : RdC w' v q := by
  obtain ⟨a, c, h1, h2, h3, h4⟩ := h
  refine ⟨a, c, h1, h2, h3, fun k x hx => ?_⟩
  obtain ⟨b1, b2, g, off, e, hg, c0, c1⟩ := h4 k x hx
  exact ⟨b1, b2, g, off, e, Nat.lt_of_lt_of_le hg hb.size, (hb.cell (p := ⟨g, off + k * 2, none⟩) hg).trans c0, (hb.cell (p := ⟨g, off + k * 2 + 1, none⟩) hg).trans c1⟩

theorem RdC.take {w : World} {a : Option Addr} {n c : Nat} {q : List Cd} (h : RdC w (.slice a n c) q) (i : Nat) (hi : i ≤ q.length) : RdC w (.slice a i c) (q.take i) := by
  obtain ⟨a', c', e, h2, h3, h4⟩ := h
  simp only [Value.slice.injEq] at e
  obtain ⟨rfl, -, rfl⟩ := e
  refine ⟨a, c, by rw [List.length_take, Nat.min_eq_left hi], by rw [List.length_take]; omega, h3, fun k x hx => h4 k x ?_⟩
  have hk := (List.getElem?_eq_some_iff.1 hx).1
  rw [List.length_take] at hk
  rwa [List.getElem?_take_of_lt (by omega)] at hx

theorem ccels_len' (l : List Cd) : (ccels l).length = l.length * 2 := by
  induction l with
  | nil => rfl
  | cons c l ih =>
    show (ccel c ++ ccels l).length = _
    rw [List.length_append, ih, List.length_cons]
    show 2 + _ = _
    omega
theorem ccels_at' {l : List Cd} {k i : Nat} {c : Cd} {v : Value} (hk : l[k]? = some c) (hv : (ccel c)[i]? = some v) : (ccels l)[k * 2 + i]? = some v := by
  induction l generalizing k with
  | nil => cases hk
  | cons d l ih =>
    have hi : i < 2 := (List.getElem?_eq_some_iff.1 hv).1
    show (ccel d ++ ccels l)[k * 2 + i]? = _
    cases k with
    | zero =>
      simp only [List.getElem?_cons_zero, Option.some.injEq] at hk
      subst hk
      rw [Nat.zero_mul, Nat.zero_add, List.getElem?_append_left (show i < (ccel d).length from hi)]
      exact hv
    | succ k =>
      rw [List.getElem?_cons_succ] at hk
      rw [List.getElem?_append_right (show (ccel d).length ≤ _ from (show 2 ≤ _ by omega)), show (ccel d).length = 2 from rfl, show (k + 1) * 2 + i - 2 = k * 2 + i by omega]
      exact ih hk

theorem RdC.of_own {w : World} {base : Nat} {e : TypeId} {v : Value} {q : List Cd} (h : w.ownsRow base e 2 v q.length (ccels q)) (hb : ∀ x ∈ q, x.1 < 4294967296 ∧ x.2 < 256) : RdC w v q := by
  obtain ⟨a, c, rfl, h1, h2⟩ := owns_slice h
  refine ⟨a, c, rfl, h1, h2, fun k x hx => ?_⟩
  have hbx := hb x (List.mem_of_getElem? hx)
  refine ⟨hbx.1, hbx.2, ?_⟩
  rcases owns_shape h with ⟨h3, h4⟩ | ⟨g, cap, h3, _, h5, _⟩
  · have := (List.getElem?_eq_some_iff.1 hx).1; omega
  · simp only [Value.slice.injEq] at h3
    obtain ⟨rfl, -, rfl⟩ := h3
    have k0 := World.ownsRow.cells h (g := g) rfl (k * 2 + 0) _ (ccels_at' hx rfl)
    have k1 := World.ownsRow.cells h (g := g) rfl (k * 2 + 1) _ (ccels_at' hx rfl)
    rw [Addr.add_lit] at k0 k1
    exact ⟨g, 0, rfl, h5, k0, by rw [Nat.add_assoc]; exact k1⟩

theorem info32 : (Try.prog.info? 33).map (fun i => (i.zero, i.size, i.bytes)) = some (some (.int .u32 0), 1, 4) := by kernel_rfl

set_option maxRecDepth 100000 in
set_option maxHeartbeats 4000000 in
theorem numbers_any (w : World) (v : Value) (q : List Cd) (h : RdC w v q) (hl : q.length ≤ 1000) :
    Calls Try.prog 55 #[v] w fun e w' => ∃ u, e = .returned u ∧ w'.ownsRow w.heap.size 33 1 u q.length (q.map fun c => uv c.1) ∧ Below w.heap.size w w' := by
  obtain ⟨a, c, rfl, hc1, hc2⟩ := h.len
  have H := hid h
  clear h
  obtain ⟨n, hn⟩ : ∃ n, n = q.length := ⟨_, rfl⟩
  rw [← hn] at hc1 H hl ⊢
  have HN := hid hn
  clear hn
  go_enter Try.func55, Try.ntmps55
  go_wp2_with fail
  go_loopw [3, 8] (fun u i wr => ∃ k : Nat, i = .int .i64 k ∧ k ≤ n ∧ wr.ownsRow w.heap.size 33 1 u k ((q.take k).map fun c => uv c.1) ∧ Below w.heap.size w wr) (fun _ i _ => n - (intOf i).toNat)
  case atStart => exact ⟨0, rfl, Nat.zero_le _, World.ownsRow_nil _ _ _ _, Below.refl _ _⟩
  case round =>
    obtain ⟨k, rfl, hk, ho, hb⟩ := hrel
    have HO := hid ho
    have HB := hid hb
    have hsz := hb.size
    by_cases hkn : k < n
    · obtain ⟨x, hx⟩ : ∃ x, q[k]? = some x := ⟨_, List.getElem?_eq_getElem (by have := HN.out; omega)⟩
      obtain ⟨b1, b2, g, off, rfl, hg, z0, z1⟩ := (H.out.below hb).at hx
      have HX := hid hx
      have hki : (k : Int) < (n : Int) := by omega
      obtain ⟨y1, hy1⟩ : ∃ y, y = wr.alloc (.cells #[.int .u32 (x.1 : Nat), .int .u8 (x.2 : Nat)] 80) := ⟨_, rfl⟩
      have hby : Below wr.heap.size wr y1 := by rw [hy1]; exact (Below.refl _ _).alloc (Nat.le_refl _) _
      have hbx : y1.heap[wr.heap.size]? = some (.cells #[.int .u32 (x.1 : Nat), .int .u8 (x.2 : Nat)] 80 (0, 0)) := by rw [hy1]; exact heap_alloc_new wr _
      obtain ⟨pb, hpb⟩ : ∃ p, p = wr.heap.size := ⟨_, rfl⟩
      rw [← hpb] at hbx
      have o0 : y1.cell? ⟨pb, 0, none⟩ = some (.int .u32 (x.1 : Nat)) := (cell_of_row _ _ _ _ _ _ hbx).trans rfl
      have HBY := hid (hb.trans (hby.mono hsz))
      have hys := hby.size
      have HOY := hid (owns_below ho hby)
      clear ho hb hx hby hbx
      go_upto_region 5 with (fail)
      rw [← hy1, ← hpb]
      clear hy1 hpb z0 z1
      have hsrc := hid (SrcC.lit y1 #[.int .u32 (x.1 : Nat)] 33 1 [uv x.1] rfl)
      have hof := hid (owns_below HOY.out ((Below.refl _ _).alloc (Nat.le_refl _) (.cells #[.int .u32 (x.1 : Nat)] 33)))
      have HZ := hid (show (y1.alloc (.cells #[.int .u32 (x.1 : Nat)] 33)).heap.size = y1.heap.size + 1 by simp)
      go_wp2_with (first
        | (at_builtin; (refine appsw (by rfl) 60 33 (.tmp 12) (.tmp 15) rfl w.heap.size 1 4 _ Try.underlying60 info32 rfl (by decide) _ _ k 1 (k + 1) _ _ rfl rfl hof.out hsrc.out rfl (by intro y hy; rw [List.mem_singleton] at hy; subst hy; rfl) rfl (by omega) (by omega) (by have := HZ.out; omega) ?_); intro ad9 cp9 wA hoA hgA; have HOA := hid hoA; have HBA := hid (show Below w.heap.size w wA from (HBY.out.alloc (by omega) _).grown hgA (by have := HZ.out; omega) (fun g hg => (World.ownsRow.lt HOY.out g hg).1)); clear hoA hgA)
        | fail)
      go_roundw
      case rel => exact ⟨k + 1, by go_num, by omega, by rw [take_snoc' _ _ _ HX.out, List.map_append]; exact HOA.out, HBA.out⟩
      case measure => simp [intOf]; omega
    · have hki : ¬ (k : Int) < (n : Int) := by omega
      have e : k = n := by omega
      have HO2 := hid (show wr.ownsRow w.heap.size 33 1 _ n (q.map fun c => uv c.1) from by
        have h1 := ho
        rw [e, HN.out, List.take_length] at h1
        rw [HN.out]
        exact h1)
      clear ho hb e
      go_wp2_with fail
      go_ret
      exact ⟨_, rfl, HO2.out, HB.out⟩

theorem grC_at {q : List Cd} {n : Nat} {x : Cd} (hn : q.length = n + 1) (hx : q[n]? = some x) : grC q = (x.2 : Int) := by
  unfold grC
  rw [List.getLast?_eq_getElem?, hn, Nat.add_sub_cancel, hx]

theorem greatest_any (w : World) (v : Value) (q : List Cd) (h : RdC w v q) (hl : q.length ≤ 1000) :
    Calls Try.prog 68 #[v] w fun e w' => e = .returned (.int .i64 (grC q)) ∧ w = w' := by
  obtain ⟨a, c, rfl, hc1, hc2⟩ := h.len
  have H := hid h
  clear h
  cases hq : q.length with
  | zero =>
    rw [hq] at H
    have hq0 : q = [] := List.length_eq_zero_iff.1 hq
    subst hq0
    clear H
    go_enter Try.func68, Try.ntmps68
    go_wp2_with fail
    go_ret
    exact ⟨rfl, rfl⟩
  | succ n =>
    obtain ⟨x, hx⟩ : ∃ x, q[n]? = some x := ⟨_, List.getElem?_eq_getElem (by omega)⟩
    rw [hq] at H hc1 hl
    obtain ⟨b1, b2, g, off, rfl, hg, z0, z1⟩ := H.out.at hx
    have HG := hid (grC_at hq hx)
    obtain ⟨N, hN⟩ : ∃ N, N = n + 1 := ⟨_, rfl⟩
    have hN1 : (N : Int) - 1 = (n : Int) := by omega
    have hN2 : ((N : Int) == 0) = false := by simp; omega
    have hN3 : (n : Int) < (N : Int) := by omega
    have hN4 : n < N := by omega
    have b2i : (x.2 : Int) < 256 := by omega
    rw [← hN] at H hc1 hl ⊢
    clear H hx hN hq z0
    go_enter Try.func68, Try.ntmps68
    go_wp2_with fail
    go_ret
    exact ⟨congrArg (fun x => Ending.returned (Value.int .i64 x)) HG.out.symm, rfl⟩

def harmI (p q : List Cd) : Int := if cmp3 p.length q.length ≠ 0 then cmp3 p.length q.length else cmp3 (grC p) (grC q)
theorem harmI_harm (p q : List Cd) : harmI p q < 0 ↔ Harm p q := by
  unfold harmI cmp3 Harm
  repeat' split
  all_goals omega
theorem orL_harm (p q : List Cd) : orL [cmp3 p.length q.length, cmp3 (grC p) (grC q)] = harmI p q := by
  unfold orL orL harmI
  split
  · rfl
  · unfold orL
    split
    · rfl
    · rename_i h; simp only [ne_eq, Decidable.not_not] at h; exact h.symm

set_option maxRecDepth 100000 in
set_option maxHeartbeats 4000000 in
theorem harm_any (w : World) (va vb : Value) (p q : List Cd) (ha : RdC w va p) (hb : RdC w vb q) (hl : p.length ≤ 1000) (hl2 : q.length ≤ 1000) :
    Calls Try.prog 54 #[va, vb] w fun e w' => e = .returned (.int .i64 (harmI p q)) ∧ Below w.heap.size w w' := by
  obtain ⟨a, c, rfl, hc1, hc2⟩ := ha.len
  obtain ⟨a', c', rfl, hc1', hc2'⟩ := hb.len
  have HA := hid (greatest_any w _ p ha hl)
  have HB := hid (greatest_any w _ q hb hl2)
  have HO := hid (orL_harm p q)
  generalize harmI p q = O at *
  generalize grC p = gp at *
  generalize grC q = gq at *
  generalize p.length = np at *
  generalize q.length = nq at *
  clear ha hb
  have HC1 := hid (cmpi_any (np : Int) (nq : Int) w)
  have HC2 := hid (cmpi_any gp gq w)
  obtain ⟨w1, hw1⟩ : ∃ w1, w1 = w.alloc (.cells #[.int .i64 (cmp3 (np : Int) (nq : Int)), .int .i64 (cmp3 gp gq)] 3) := ⟨_, rfl⟩
  have hg1 : w1.heap[w.heap.size]? = some (.cells #[.int .i64 (cmp3 (np : Int) (nq : Int)), .int .i64 (cmp3 gp gq)] 3 (0, 0)) := by rw [hw1]; exact heap_alloc_new w _
  have hb1 : Below w.heap.size w w1 := by rw [hw1]; exact (Below.refl _ _).alloc (Nat.le_refl _) _
  have HR := hid (or_grw w1 w.heap.size 2 [cmp3 (np : Int) (nq : Int), cmp3 gp gq] rfl (by omega) (by intro k x hk; rw [cell_of_row _ _ _ _ _ _ hg1]; match k, hk with | 0, hk => (cases hk; rfl) | 1, hk => (cases hk; rfl) | k + 2, hk => cases hk))
  rw [hw1] at HR
  have HB1 := hid hb1
  rw [hw1] at HB1
  clear hw1 hg1 hb1
  go_enter Try.func54, Try.ntmps54
  go_wp2_with (first
    | (go_at_call 67; (with_reducible refine HC1.out.mono ?_); rintro e w' ⟨rfl, rfl⟩)
    | (go_at_call 67; (with_reducible refine HC2.out.mono ?_); rintro e w' ⟨rfl, rfl⟩)
    | (go_at_call 68; (with_reducible refine HA.out.mono ?_); rintro e w' ⟨rfl, rfl⟩)
    | (go_at_call 68; (with_reducible refine HB.out.mono ?_); rintro e w' ⟨rfl, rfl⟩)
    | (go_at_call 66; (with_reducible refine HR.out.mono ?_); rintro e y ⟨rfl, hy, -⟩; rw [HO.out]; have HY := hid (HB1.out.trans (hy.mono (by simp))); clear hy)
    | fail)
  go_ret
  exact ⟨rfl, HY.out⟩

theorem w64t (k : Nat) (h : k < 9223372036854775807) : Go.RowKit.wrap64 ((k : Int) + 1) = ((k + 1 : Nat) : Int) := by unfold Go.RowKit.wrap64; omega

theorem upN_snoc (m : Mx) (l : List Nat) (x : Nat) : ((l ++ [x]).filter fun k => !m.d k).length = (l.filter fun k => !m.d k).length + (if m.d x then 0 else 1) := by
  rw [List.filter_append, List.length_append]
  cases h : m.d x <;> simp [h]

theorem cnt_nodes (m : Mx) (j : Nat) : m.cnt j = ((m.nodes j).filter fun k => !m.d k).length := by
  unfold Mx.cnt Mx.nodes
  cases m.where j <;> rfl

set_option maxRecDepth 100000 in
set_option maxHeartbeats 4000000 in
theorem cells_any (w : World) (b : Nat) (m : Mx) (j : Nat) (h : MxAt w b m) :
    Calls Try.prog 65 #[.pointer (some ⟨b, 0, none⟩), .int .u32 (j : Nat)] w fun e w' => e = .returned (.int .i64 (m.cnt j : Nat)) ∧ Below w.heap.size w w' := by
  have HH := hid h
  have HB := hid h.lt
  have HN := hid (fun k (hk : k ∈ m.nodes j) => nodes_lt k hk)
  have hlen : (m.nodes j).length ≤ 16 := by
    have h1 := h.n16
    unfold Mx.nodes
    split
    · simp
    · exact Nat.le_trans (show (m.own _ j).length ≤ m.n from m.at_len _) h1
  rw [cnt_nodes]
  have HOF := hid (of_nodes w b m j h)
  obtain ⟨L, hL⟩ : ∃ L, L = m.nodes j := ⟨_, rfl⟩
  rw [← hL] at HN HOF hlen ⊢
  obtain ⟨n, hn⟩ : ∃ n, n = L.length := ⟨_, rfl⟩
  rw [← hn] at hlen HOF
  have HL := hid hn
  clear h hL hn
  go_enter Try.func65, Try.ntmps65
  go_wp2_with fail
  refine HOF.out.mono ?_
  rintro e w1 ⟨r, v, q, rfl, hv, hb1⟩
  have HR := hid (show RdV w1 v (L.map iv) from by rw [HL.out] at hv; exact RdV.of_own hv)
  obtain ⟨a, c, rfl, hc1, hc2⟩ := owns_slice hv
  have HB1 := hid hb1
  clear hv hb1
  go_wp2_with fail
  go_loopw [8, 20] (fun u i wr => ∃ k : Nat, i = .int .i64 k ∧ k ≤ n ∧ u = .int .i64 ((((L.take k).filter fun x => !m.d x).length : Nat) : Int) ∧ Below w1.heap.size w1 wr) (fun _ i _ => n - (intOf i).toNat)
  case atStart => exact ⟨0, rfl, Nat.zero_le _, rfl, Below.refl _ _⟩
  case round =>
    obtain ⟨k, rfl, hk, rfl, hb⟩ := hrel
    have HW := hid hb
    by_cases hkn : k < n
    · obtain ⟨x, hx⟩ : ∃ x, L[k]? = some x := ⟨_, List.getElem?_eq_getElem (by have := HL.out; omega)⟩
      obtain ⟨-, g, off, rfl, hg, hcell⟩ := RdV.at1 (HR.out.all hb) k (iv x) (by rw [List.getElem?_map, hx]; rfl)
      have hc0 : wr.cell? ⟨g, off + k, none⟩ = some (.int .i64 (x : Nat)) := hcell
      have hxn := HN.out x (List.mem_of_getElem? hx)
      have HM := hid (HH.out.below (HB1.out.trans (hb.mono HB1.out.size)) HB.out)
      have HI := hid (isup_yes wr b m x HM.out hxn)
      have hki : (k : Int) < (n : Int) := by omega
      have HT := hid (take_snoc' _ _ _ hx)
      have HU := hid (upN_snoc m (L.take k) x)
      have hfl : (((L.take k).filter fun x => !m.d x).length) ≤ 16 := Nat.le_trans (List.length_filter_le _ _) (by rw [List.length_take]; omega)
      generalize hff : (((L.take k).filter fun x => !m.d x).length) = ff at *
      have HFF := hid hff
      have hw1 := w64t ff (by omega)
      clear hb hx hcell hff
      cases hd : m.d x with
      | true =>
        rw [hd] at HI HU
        have hf2 := HU.out
        go_wp2_with fail
        refine HI.out.mono ?_
        rintro e w2 ⟨rfl, rfl⟩
        go_wp2_with fail
        go_roundw
        case rel => exact ⟨k + 1, by go_num, by omega, by rw [HT.out, HU.out]; simp, HW.out⟩
        case measure => simp [intOf]; omega
      | false =>
        rw [hd] at HI HU
        go_wp2_with fail
        refine HI.out.mono ?_
        rintro e w2 ⟨rfl, rfl⟩
        go_wp2_with fail
        go_roundw
        case rel => exact ⟨k + 1, by go_num, by omega, by rw [HT.out, HU.out]; simp, HW.out⟩
        case measure => simp [intOf]; omega
    · have hki : ¬ (k : Int) < (n : Int) := by omega
      have e : k = n := by omega
      have HE := hid (show L.take k = L by rw [e, HL.out, List.take_length])
      clear hb e
      go_wp2_with fail
      go_ret
      exact ⟨by rw [HE.out]; rfl, HB1.out.trans (HW.out.mono HB1.out.size)⟩

end Go.Proofs.Ytdongghjchnpbaa

namespace Go.Proofs
open Go.Shelf
def Try.sortIt_ren : Go.Shelf.Ren := ⟨fun | 6 => 79 | 15 => 74 | 14 => 96 | 28 => 94 | 29 => 95 | 20 => 104 | 21 => 105 | 22 => 106 | 23 => 107 | 24 => 108 | 25 => 109 | 26 => 110 | 27 => 111 | 46 => 113 | 47 => 100 | 48 => 101 | 49 => 114 | 50 => 115 | 57 => 116 | n => n, fun | 22 => 56 | 24 => 80 | 25 => 139 | 3 => 3 | 39 => 132 | 0 => 0 | 53 => 33 | 55 => 150 | 4 => 4 | 46 => 142 | 45 => 141 | 50 => 81 | 5 => 5 | 9 => 9 | 66 => 153 | 70 => 157 | 76 => 164 | 77 => 96 | n => n, fun | n => n⟩
theorem Try.sortIt : Go.Proofs.SlLaysF0.n6 Try.prog Try.sortIt_ren := {
  mixed := by kernel_rfl
  f6 := ⟨Try.f79.name, by decide, Try.func79.trans (congrArg some (by kernel_rfl))⟩
  f14 := ⟨Try.f96.name, by decide, Try.func96.trans (congrArg some (by kernel_rfl))⟩
  f15 := Try.func74.trans (congrArg some (by kernel_rfl))
  f20 := ⟨Try.f104.name, by decide, Try.func104.trans (congrArg some (by kernel_rfl))⟩
  f21 := ⟨Try.f105.name, by decide, Try.func105.trans (congrArg some (by kernel_rfl))⟩
  f22 := ⟨Try.f106.name, by decide, Try.func106.trans (congrArg some (by kernel_rfl))⟩
  f23 := ⟨Try.f107.name, by decide, Try.func107.trans (congrArg some (by kernel_rfl))⟩
  f24 := ⟨Try.f108.name, by decide, Try.func108.trans (congrArg some (by kernel_rfl))⟩
  f25 := ⟨Try.f109.name, by decide, Try.func109.trans (congrArg some (by kernel_rfl))⟩
  f26 := ⟨Try.f110.name, by decide, Try.func110.trans (congrArg some (by kernel_rfl))⟩
  f27 := ⟨Try.f111.name, by decide, Try.func111.trans (congrArg some (by kernel_rfl))⟩
  f28 := Try.func94.trans (congrArg some (by kernel_rfl))
  f29 := Try.func95.trans (congrArg some (by kernel_rfl))
  f46 := ⟨Try.f113.name, by decide, Try.func113.trans (congrArg some (by kernel_rfl))⟩
  f47 := Try.func100.trans (congrArg some (by kernel_rfl))
  f48 := Try.func101.trans (congrArg some (by kernel_rfl))
  f49 := ⟨Try.f114.name, by decide, Try.func114.trans (congrArg some (by kernel_rfl))⟩
  f50 := ⟨Try.f115.name, by decide, Try.func115.trans (congrArg some (by kernel_rfl))⟩
  f57 := ⟨Try.f116.name, by decide, Try.func116.trans (congrArg some (by kernel_rfl))⟩
  t0 := Try.underlying0
  a0 := Try.isAgg0
  z0 := Try.sizeOf0
  v0 := Try.zeroValue0
  t3 := Try.underlying3
  a3 := Try.isAgg3
  z3 := Try.sizeOf3
  v3 := Try.zeroValue3
  t4 := Try.underlying4
  a4 := Try.isAgg4
  z4 := Try.sizeOf4
  v4 := Try.zeroValue4
  t5 := Try.underlying5
  a5 := Try.isAgg5
  z5 := Try.sizeOf5
  v5 := Try.zeroValue5
  t9 := Try.underlying9
  a9 := Try.isAgg9
  z9 := Try.sizeOf9
  v9 := Try.zeroValue9
  t22 := Try.underlying56
  a22 := Try.isAgg56
  z22 := Try.sizeOf56
  v22 := Try.zeroValue56
  t25 := Try.underlying139
  a25 := Try.isAgg139
  z25 := Try.sizeOf139
  v25 := Try.zeroValue139
  t39 := Try.underlying132
  a39 := Try.isAgg132
  z39 := Try.sizeOf132
  v39 := Try.zeroValue132
  t45 := Try.underlying141
  a45 := Try.isAgg141
  z45 := Try.sizeOf141
  v45 := Try.zeroValue141
  t46 := Try.underlying142
  a46 := Try.isAgg142
  z46 := Try.sizeOf142
  v46 := Try.zeroValue142
  t50 := Try.underlying81
  a50 := Try.isAgg81
  z50 := Try.sizeOf81
  v50 := Try.zeroValue81
  t53 := Try.underlying33
  a53 := Try.isAgg33
  z53 := Try.sizeOf33
  v53 := Try.zeroValue33
  t55 := Try.underlying150
  a55 := Try.isAgg150
  z55 := Try.sizeOf150
  v55 := Try.zeroValue150
  t66 := Try.underlying153
  a66 := Try.isAgg153
  z66 := Try.sizeOf153
  v66 := Try.zeroValue153
  t70 := Try.underlying157
  a70 := Try.isAgg157
  z70 := Try.sizeOf157
  v70 := Try.zeroValue157
  t76 := Try.underlying164
  a76 := Try.isAgg164
  z76 := Try.sizeOf164
  v76 := Try.zeroValue164
  t77 := Try.underlying96
  a77 := Try.isAgg96
  z77 := Try.sizeOf96
  v77 := Try.zeroValue96 }
end Go.Proofs

namespace Go.Proofs.Ytdongghjchnpbaa
open Go.RowKit Go.Shelf Go.Sort
set_option linter.unusedVariables false
set_option linter.unusedSimpArgs false

def cndv (c : Cd) : Value := .agg #[.int .u32 (c.1 : Nat), .int .u8 (c.2 : Nat)]
/-- Below 0, if a goes first. -/
def ordC (a b : Cd) : Int := if cmp3 a.2 b.2 ≠ 0 then cmp3 a.2 b.2 else cmp3 b.1 a.1
theorem ordC_bef (a b : Cd) : ordC a b < 0 ↔ CBef a b := by
  unfold ordC cmp3 CBef
  repeat' split
  all_goals omega
theorem orL_ordC (a b : Cd) : orL [cmp3 a.2 b.2, cmp3 b.1 a.1] = ordC a b := by
  unfold orL orL ordC
  split
  · rfl
  · unfold orL
    split
    · rfl
    · rename_i h; simp only [ne_eq, Decidable.not_not] at h; exact h.symm

set_option maxRecDepth 100000 in
set_option maxHeartbeats 8000000 in
theorem orderC_grw (w : World) (a b : Cd) : Calls Try.prog 80 #[cndv a, cndv b] w fun e w' => e = .returned (.int .i64 (ordC a b)) ∧ Below w.heap.size w w' ∧ w.drawn ≤ w'.drawn := by
  have HO := hid (orL_ordC a b)
  obtain ⟨i, t⟩ := a
  obtain ⟨j, u⟩ := b
  unfold cndv
  dsimp only at *
  generalize ordC (i, t) (j, u) = O at *
  go_enter Try.func80, Try.ntmps80
  go_wp2_with fail
  obtain ⟨x1, hx1⟩ : ∃ x1, x1 = w.alloc (.cells #[.int .u32 (i : Nat), .int .u8 (t : Nat)] 80) := ⟨_, rfl⟩
  obtain ⟨x2, hx2⟩ : ∃ x2, x2 = x1.alloc (.cells #[.int .u32 (j : Nat), .int .u8 (u : Nat)] 80) := ⟨_, rfl⟩
  have hs1 : x1.heap.size = w.heap.size + 1 := by rw [hx1]; simp
  have hs2 : x2.heap.size = w.heap.size + 2 := by rw [hx2]; simp [hs1]
  have hb1 : Below w.heap.size w x1 := by rw [hx1]; exact (Below.refl _ w).alloc (Nat.le_refl _) _
  have hb2 : Below x1.heap.size x1 x2 := by rw [hx2]; exact (Below.refl _ x1).alloc (Nat.le_refl _) _
  have g1 : x2.heap[w.heap.size]? = some (.cells #[.int .u32 (i : Nat), .int .u8 (t : Nat)] 80 (0, 0)) := (hb2.block _ (by omega)).trans (by rw [hx1]; exact heap_alloc_new w _)
  have g2 : x2.heap[w.heap.size + 1]? = some (.cells #[.int .u32 (j : Nat), .int .u8 (u : Nat)] 80 (0, 0)) := by rw [hx2, ← hs1]; exact heap_alloc_new x1 _
  have HB2 := hid (hb1.trans (hb2.mono (by omega)))
  have HDX := hid (show x2.drawn = w.drawn by rw [hx2, hx1]; rfl)
  rw [← hx1, ← hx2]
  have c0 : x2.drew.cell? ⟨w.heap.size, 0, none⟩ = some (.int .u32 (i : Nat)) := (cell_of_row x2 _ _ _ _ _ g1).trans rfl
  have c1 : x2.drew.cell? ⟨w.heap.size, 1, none⟩ = some (.int .u8 (t : Nat)) := (cell_of_row x2 _ _ _ _ _ g1).trans rfl
  have d0 : x2.drew.cell? ⟨w.heap.size + 1, 0, none⟩ = some (.int .u32 (j : Nat)) := (cell_of_row x2 _ _ _ _ _ g2).trans rfl
  have d1 : x2.drew.cell? ⟨w.heap.size + 1, 1, none⟩ = some (.int .u8 (u : Nat)) := (cell_of_row x2 _ _ _ _ _ g2).trans rfl
  have HN3 := hid (fun (cs : Array Value) => show (x2.alloc (.cells cs 3)).drew.heap[w.heap.size + 2]? = some (.cells cs 3 (0, 0)) by rw [← hs2]; exact heap_alloc_new x2 _)
  clear hx1 hx2 hb1 hb2 g1 g2 hs1
  go_region_held3 (fun w' => w'.cell? ⟨w.heap.size, 0, none⟩ = some (.int .u32 (i : Nat)) ∧ w'.cell? ⟨w.heap.size, 1, none⟩ = some (.int .u8 (t : Nat)) ∧ w'.cell? ⟨w.heap.size + 1, 0, none⟩ = some (.int .u32 (j : Nat)) ∧ w'.cell? ⟨w.heap.size + 1, 1, none⟩ = some (.int .u8 (u : Nat)))
    (first | (with_reducible refine ⟨?_, ?_, ?_, ?_⟩ <;> assumption) | (with_reducible refine ⟨(alloc_cellcd _ _ _ _ ?_).trans ?_, (alloc_cellcd _ _ _ _ ?_).trans ?_, (alloc_cellcd _ _ _ _ ?_).trans ?_, (alloc_cellcd _ _ _ _ ?_).trans ?_⟩ <;> first | assumption | omega) | fail)
    (first
      | (go_at_call 81; refine (cmpb_any _ _ _).mono ?_; rintro e w' ⟨rfl, rfl⟩)
      | (go_at_call 82; refine (cmpw_any _ _ _).mono ?_; rintro e w' ⟨rfl, rfl⟩)
      | (go_at_call 66; refine (or_grw _ _ 2 [cmp3 t u, cmp3 j i] rfl (by omega) (by intro k x hk; rw [cell_of_row _ _ _ _ _ _ (HN3.out _)]; match k, hk with | 0, hk => (cases hk; rfl) | 1, hk => (cases hk; rfl) | k + 2, hk => cases hk)).mono ?_; rintro e y ⟨rfl, hy, hyd⟩; have HYD := hid (show x2.drawn ≤ y.drawn from Nat.le_trans (Nat.le_succ _) hyd); clear hyd; rw [HO.out]; have HY := hid (((Below.refl _ x2).alloc (Nat.le_refl _) _).drew.trans (hy.mono (by show x2.heap.size ≤ (x2.alloc _).heap.size; rw [World.size_alloc]; omega))); have r0 := (HY.out.cell (p := ⟨w.heap.size, 0, none⟩) (by show w.heap.size < x2.heap.size; omega)).trans c0; have r1 := (HY.out.cell (p := ⟨w.heap.size, 1, none⟩) (by show w.heap.size < x2.heap.size; omega)).trans c1; have r3 := (HY.out.cell (p := ⟨w.heap.size + 1, 0, none⟩) (by show w.heap.size + 1 < x2.heap.size; omega)).trans d0; have r4 := (HY.out.cell (p := ⟨w.heap.size + 1, 1, none⟩) (by show w.heap.size + 1 < x2.heap.size; omega)).trans d1; clear hy)
      | fail)
  go_wp2
  go_ret
  exact ⟨rfl, HB2.out.trans (HY.out.mono (by omega)), by rw [← HDX.out]; exact HYD.out⟩

/-- What has grown is what it was, with more behind it. -/
theorem grow_of {w w' : World} (h : Below w.heap.size w w') (hd : w.drawn ≤ w'.drawn) : ∃ q os, w' = Go.Sort.grow (w.drewN q) os := by
  refine ⟨w'.drawn - w.drawn, w'.heap.extract w.heap.size w'.heap.size, ?_⟩
  have hs := h.size
  have hh : w'.heap = w.heap ++ w'.heap.extract w.heap.size w'.heap.size := by
    apply Array.ext_getElem?
    intro i
    by_cases hi : i < w.heap.size
    · rw [Array.getElem?_append_left hi]
      exact h.block i hi
    · rw [Array.getElem?_append_right (by omega), Array.getElem?_extract]
      by_cases h2 : i < w'.heap.size
      · rw [if_pos (by omega), show w.heap.size + (i - w.heap.size) = i by omega]
      · rw [if_neg (by omega), Array.getElem?_eq_none (by omega)]
  have h1 := h.os
  have h2 := h.tape
  have h3 := h.output
  cases w' with
  | mk heap' tape' drawn' os' output' =>
    cases w with
    | mk heap tape drawn os output =>
      simp only at *
      unfold Go.Sort.grow World.drewN
      simp only [World.mk.injEq]
      exact ⟨hh, h2, by omega, h1, h3⟩


theorem ccel_len (c : Cd) : (ccel c).length = 2 := rfl
theorem ccel_one (c : Cd) : ∀ v ∈ ccel c, v.oneCell' = true := by
  intro v hv
  unfold ccel at hv
  simp only [List.mem_cons, List.not_mem_nil, or_false] at hv
  rcases hv with rfl | rfl <;> rfl
theorem ccels_len (l : List Cd) : (ccels l).length = l.length * 2 := by
  induction l with
  | nil => rfl
  | cons c l ih =>
    show (ccel c ++ ccels l).length = _
    rw [List.length_append, ccel_len, ih, List.length_cons]; omega
theorem ccels_at {l : List Cd} {k i : Nat} {c : Cd} {v : Value} (hk : l[k]? = some c) (hv : (ccel c)[i]? = some v) : (ccels l)[k * 2 + i]? = some v := by
  induction l generalizing k with
  | nil => cases hk
  | cons d l ih =>
    have hi : i < 2 := (List.getElem?_eq_some_iff.1 hv).1
    show (ccel d ++ ccels l)[k * 2 + i]? = _
    cases k with
    | zero =>
      simp only [List.getElem?_cons_zero, Option.some.injEq] at hk
      subst hk
      rw [Nat.zero_mul, Nat.zero_add, List.getElem?_append_left (by rw [ccel_len]; exact hi)]
      exact hv
    | succ k =>
      rw [List.getElem?_cons_succ] at hk
      rw [List.getElem?_append_right (by rw [ccel_len]; omega), ccel_len, show (k + 1) * 2 + i - 2 = k * 2 + i by omega]
      exact ih hk

theorem cmp_laysC (blk off size : Nat) (w : World) : CmpLays Try.prog 80 #[] ccel 2 ordC blk off size w := fun m os dk hs x y =>
  (orderC_grw _ x y).mono fun e w' h => ⟨h.1, grow_of h.2.1 h.2.2⟩

theorem lt_ordC (a b : Cd) : ltOf ordC a b = decide (CBef a b) := by
  unfold ltOf
  exact decide_eq_decide.2 (ordC_bef a b)

theorem swo_ordC : SWO (ltOf ordC) where
  irrefl x := by rw [lt_ordC]; exact decide_eq_false (cbef_irr x)
  trans x y z h1 h2 := by rw [lt_ordC] at *; exact decide_eq_true (cbef_trans (of_decide_eq_true h1) (of_decide_eq_true h2))
  ntrans x y z h1 h2 := by rw [lt_ordC] at *; exact decide_eq_false (cbef_ntrans (of_decide_eq_false h1) (of_decide_eq_false h2))

theorem tot_ordC (x y : Cd) (h1 : ltOf ordC x y = false) (h2 : ltOf ordC y x = false) : x = y := by
  rw [lt_ordC] at h1 h2
  by_cases e : x = y
  · exact e
  · rcases cbef_total e with hb | hb
    · exact absurd hb (of_decide_eq_false h1)
    · exact absurd hb (of_decide_eq_false h2)

theorem sortC_eq (q : List Cd) : (q.mergeSort fun x y => !(ltOf ordC) y x) = sortC q := by
  unfold sortC
  congr 1
  funext x y
  rw [lt_ordC]

theorem flat_ccels (q : List Cd) : flatK ccel 2 q.toArray = (ccels q).toArray := by
  apply Array.ext_getElem?
  intro t
  by_cases ht : t < q.length * 2
  · have h1 : t / 2 < q.length := by omega
    have hg := get_flatK ccel 2 q.toArray t (by simpa using ht)
    have hsz : t < (flatK ccel 2 q.toArray).size := by rw [size_flatK]; simpa using ht
    rw [Array.getElem?_eq_getElem hsz]
    rw [getElem!_pos _ t hsz] at hg
    rw [hg]
    have hit : q.toArray[t / 2]! = q[t / 2] := by
      rw [getElem!_pos _ _ (by simpa using h1)]
      simp
    rw [hit]
    have hm : t % 2 < (ccel q[t / 2]).length := by rw [ccel_len]; omega
    have hc := ccels_at (i := t % 2) (List.getElem?_eq_getElem h1) (List.getElem?_eq_getElem (l := ccel q[t / 2]) hm)
    rw [show t / 2 * 2 + t % 2 = t by omega] at hc
    rw [List.getElem?_toArray, hc, getElem!_pos (ccel q[t / 2]) (t % 2) hm]
  · rw [Array.getElem?_eq_none (by rw [size_flatK]; simpa using ht), Array.getElem?_eq_none (by rw [List.size_toArray, ccels_len]; omega)]

theorem heap_sortedK {w : World} {g n : Nat} {os : Array Obj} {cur : Array Value} {e : TypeId} {fr : Nat × Nat} (d : Array Value) (hb : w.heap[g]? = some (.cells cur e fr)) :
    (grow (putRow id (Sort.ahead w n) g 0 d) os).heap[g]? = some (.cells (putCells id 0 d cur) e fr) := by
  have hg : g < w.heap.size := (Array.getElem?_eq_some_iff.1 hb).1
  rw [heap_grow_old _ _ (by simpa using hg)]
  simp [putRow, mapBlock, Sort.ahead, Array.getElem?_modify, hb, onCells]

theorem keeps_sortedK {w : World} {g n : Nat} {os : Array Obj} (d : Array Value) : Keeps (fun k => k = g) w (grow (putRow id (Sort.ahead w n) g 0 d) os) := by
  refine ⟨rfl, rfl, rfl, by simp, fun k hk hne => ?_⟩
  rw [heap_grow_old _ _ (by simpa using hk)]
  have : g ≠ k := fun e => hne e.symm
  simp [putRow, mapBlock, Sort.ahead, Array.getElem?_modify, this]

theorem take_putCellsK (cur : Array Value) (ts : List Value) (h : ts.length ≤ cur.size) : (putCells id 0 ts.toArray cur).toList.take ts.length = ts := by
  apply List.ext_getElem?
  intro j
  by_cases hj : j < ts.length
  · rw [List.getElem?_take_of_lt hj, Array.getElem?_toList]
    simp [putCells, hj, show j < cur.size by omega]
  · rw [List.getElem?_take_eq_none (by omega), List.getElem?_eq_none (by omega)]

theorem holds_ownK {w : World} {lo g n c : Nat} {e : TypeId} {xs : List Value} (h : w.ownsRow lo e 2 (.slice (some ⟨g, 0, none⟩) n c) n xs) : Holds id w g 0 xs.toArray := by
  intro j hj
  have hj' : j < xs.length := by simpa using hj
  refine ⟨?_, by rw [Nat.zero_add]; exact owns_frozen h j⟩
  rw [Nat.zero_add]
  have h1 := h.cellAt j (by have := h.1; omega)
  rw [h1]
  simp [hj']

set_option maxRecDepth 100000 in
theorem sortC_any (w : World) (lo : Nat) (v : Value) (q : List Cd) (h : w.ownsRow lo 80 2 v q.length (ccels q)) (hl : q.length ≤ 10000) :
    Calls Try.prog 79 #[v, .func (.func 80) #[] #[]] w fun e w' => e = .returned (.tuple #[]) ∧ w'.ownsRow lo 80 2 v q.length (ccels (sortC q)) ∧ Keeps (fun k => v.ownBlock = some k) w w' := by
  rcases owns_shape h with ⟨rfl, e0⟩ | ⟨g, cap, rfl, hg1, hg2, hc1, hc2⟩
  · have hq : q = [] := List.length_eq_zero_iff.1 e0
    subst hq
    have hs := AnyF.slices_SortFunc_none Try.sortIt none 0 (.func (.func 80) #[] #[]) w
    refine Calls.mono hs ?_
    rintro e w' ⟨rfl, rfl⟩
    exact ⟨rfl, by rw [show sortC [] = [] from List.length_eq_zero_iff.1 (sortC_len [])]; exact h, Keeps.refl _ _⟩
  · obtain ⟨cur, hcur, hsz, htk, h1, h2, h3⟩ := owns_setRow h
    have hH : HoldsK ccel 2 w g 0 q.toArray := by
      unfold HoldsK
      rw [flat_ccels]
      exact holds_ownK h
    have hs := AnyQ.slices_SortFunc_total Try.sortIt 2 Try.isAgg80 Try.sizeOf80 ccel ccel_len ccel_one ordC swo_ordC 80 #[] g 0 cap q.toArray w (enters_of Try.func80 (by kernel_rfl) rfl) (cmp_laysC _ _ _ _) hH hg2 (by simp; omega) tot_ordC
    refine Calls.mono hs ?_
    rintro e w' ⟨rfl, n, os, rfl⟩
    unfold sortWorldK putRowK
    rw [show (q.toArray.toList.mergeSort fun x y => !(ltOf ordC) y x) = sortC q from sortC_eq q, flat_ccels]
    have hcl := ccels_len (sortC q)
    rw [sortC_len] at hcl
    refine ⟨rfl, ⟨by rw [hcl], .inr ⟨g, cap, _, rfl, h3, heap_sortedK _ hcur, h1, h2, by simpa [putCells] using hsz, ?_⟩⟩, ?_⟩
    · rw [← hcl]
      exact take_putCellsK cur _ (by rw [hcl, hsz]; omega)
    · exact (keeps_sortedK (ccels (sortC q)).toArray).mono fun k hk e => by rw [e]; rfl


theorem below_of_keepsC {S : Nat → Prop} {w w' : World} {B : Nat} (h : Keeps S w w') (hB : B ≤ w.heap.size) (hS : ∀ k, S k → B ≤ k) : Below B w w' :=
  ⟨h.os, h.tape, h.output, h.size, fun i hi => h.block i (by omega) fun hs => by have := hS i hs; omega⟩

end Go.Proofs.Ytdongghjchnpbaa

namespace Go.Proofs.Ytdongghjchnpbaa
open Go.RowKit Go.Shelf
set_option linter.unusedVariables false
set_option linter.unusedSimpArgs false

theorem firstC_of {l : List Cd} {z k : Nat} {x : Cd} (hx : l[k]? = some x) (he : x.1 = z) (hall : ∀ (j : Nat) (y : Cd), j < k → l[j]? = some y → y.1 ≠ z) : firstC l z = some x := by
  unfold firstC
  rw [List.find?_eq_some_iff_getElem]
  obtain ⟨h1, h2⟩ := List.getElem?_eq_some_iff.1 hx
  refine ⟨by simpa using he, k, h1, h2, fun j hj => ?_⟩
  have := hall j (l[j]'(by omega)) hj (List.getElem?_eq_getElem (by omega))
  simpa using this
theorem firstC_none {l : List Cd} {z : Nat} (hall : ∀ (j : Nat) (y : Cd), l[j]? = some y → y.1 ≠ z) : firstC l z = none := by
  unfold firstC
  rw [List.find?_eq_none]
  intro x hx
  obtain ⟨j, hj⟩ := List.mem_iff_getElem?.1 hx
  have := hall j x hj
  simpa using this

set_option maxRecDepth 100000 in
set_option maxHeartbeats 1000000 in
theorem isC_any (w : World) (x : Cd) (z g : Nat) (hg : w.cell? ⟨g, 0, none⟩ = some (.int .u32 (z : Nat))) :
    Calls Try.prog 78 #[.agg #[.int .u32 (x.1 : Nat), .int .u8 (x.2 : Nat)], .pointer (some ⟨g, 0, none⟩)] w fun e w' => e = .returned (.bool (decide (x.1 = z))) ∧ Below w.heap.size w w' := by
  obtain ⟨x0, x1⟩ := x
  dsimp only
  have hlt : g < w.heap.size := World.block_lt_of_cell? _ _ hg
  have hd : decide ((x0 : Int) = (z : Int)) = decide (x0 = z) := by
    by_cases e : x0 = z
    · rw [decide_eq_true e, decide_eq_true (by omega)]
    · rw [decide_eq_false e, decide_eq_false (by omega)]
  have hbe : ((x0 : Int) == (z : Int)) = decide (x0 = z) := by rw [← hd]; rfl
  obtain ⟨w1, hw1⟩ : ∃ w1, w1 = w.alloc (.cells #[.int .u32 (x0 : Nat), .int .u8 (x1 : Nat)] 80) := ⟨_, rfl⟩
  have hb1 : Below w.heap.size w w1 := by rw [hw1]; exact (Below.refl _ w).alloc (Nat.le_refl _) _
  have HB := hid hb1
  have c1 : w1.cell? ⟨g, 0, none⟩ = some (.int .u32 (z : Nat)) := (hb1.cell (p := ⟨g, 0, none⟩) hlt).trans hg
  rw [hw1] at c1
  clear hb1 hd
  go_enter Try.func78, Try.ntmps78
  go_wp2_with fail
  rw [← hw1]
  go_ret
  exact ⟨rfl, HB.out⟩

/-- What IndexFunc tells. -/
def Told15 (l : List Cd) (z : Nat) (i : Int) : Prop := (i = -1 ∧ firstC l z = none) ∨ ∃ k x, i = (k : Nat) ∧ l[k]? = some x ∧ firstC l z = some x

set_option maxRecDepth 100000 in
set_option maxHeartbeats 2000000 in
theorem indexC_any (w : World) (v : Value) (l : List Cd) (z g : Nat) (h : RdC w v l) (hg : w.cell? ⟨g, 0, none⟩ = some (.int .u32 (z : Nat))) (hl : l.length ≤ 1000) :
    Calls Try.prog 77 #[v, .func (.func 78) #[] #[.pointer (some ⟨g, 0, none⟩)]] w fun e w' => ∃ i, e = .returned (.int .i64 i) ∧ Told15 l z i ∧ Below w.heap.size w w' := by
  have H := hid h
  have HG := hid hg
  have hlt : g < w.heap.size := World.block_lt_of_cell? _ _ hg
  obtain ⟨a, c, rfl, hc1, hc2⟩ := h.len
  clear hg h
  obtain ⟨n, hn⟩ : ∃ n, n = l.length := ⟨_, rfl⟩
  rw [← hn] at hc1 H hl ⊢
  have HN := hid hn
  clear hn
  go_enter Try.func77, Try.ntmps77
  go_wp2_with fail
  go_loopw [8] (fun i wr => ∃ k : Nat, i = .int .i64 k ∧ k ≤ n ∧ (∀ j y, j < k → l[j]? = some y → y.1 ≠ z) ∧ Below w.heap.size w wr) (fun i _ => n - (intOf i).toNat)
  case atStart => exact ⟨0, rfl, Nat.zero_le _, fun j y hj => absurd hj (Nat.not_lt_zero _), Below.refl _ _⟩
  case round =>
    obtain ⟨k, rfl, hk, hall, hb⟩ := hrel
    have HA := hid hall
    have HB := hid hb
    have hsz := hb.size
    clear hall hb
    by_cases hkn : k < n
    · obtain ⟨x, hx⟩ : ∃ x, l[k]? = some x := ⟨_, List.getElem?_eq_getElem (by have := HN.out; omega)⟩
      obtain ⟨b1, b2, g', off, rfl, hg', z0, z1⟩ := (H.out.below HB.out).at hx
      have HX := hid hx
      have hki : (k : Int) < (n : Int) := by omega
      have HI := hid (isC_any wr x z g ((HB.out.cell (p := ⟨g, 0, none⟩) hlt).trans HG.out))
      clear hx
      by_cases he : x.1 = z
      · rw [show decide (x.1 = z) = true from decide_eq_true he] at HI
        have HP := hid (firstC_of HX.out he HA.out)
        clear he
        go_wp2_with fail
        refine HI.out.mono ?_
        rintro e w1 ⟨rfl, hb1⟩
        have HB1 := hid (HB.out.trans (hb1.mono hsz))
        clear hb1
        go_wp2_with fail
        go_ret
        exact ⟨_, rfl, .inr ⟨k, x, rfl, HX.out, HP.out⟩, HB1.out⟩
      · rw [show decide (x.1 = z) = false from decide_eq_false he] at HI
        have HA1 := hid (show ∀ j y, j < k + 1 → l[j]? = some y → y.1 ≠ z from fun j y hj hy => by
          by_cases e : j = k
          · subst e
            rw [HX.out] at hy
            simp only [Option.some.injEq] at hy
            subst hy
            exact he
          · exact HA.out j y (by omega) hy)
        clear he
        go_wp2_with fail
        refine HI.out.mono ?_
        rintro e w1 ⟨rfl, hb1⟩
        have HB1 := hid (HB.out.trans (hb1.mono hsz))
        clear hb1
        go_wp2_with fail
        go_roundw
        case rel => exact ⟨k + 1, by go_num, by omega, HA1.out, HB1.out⟩
        case measure => simp [intOf]; omega
    · have hki : ¬ (k : Int) < (n : Int) := by omega
      have HP := hid (firstC_none (l := l) (z := z) (fun j y hj => HA.out j y (by have := (List.getElem?_eq_some_iff.1 hj).1; have := HN.out; omega) hj))
      go_wp2_with fail
      go_ret
      exact ⟨_, rfl, .inl ⟨rfl, HP.out⟩, HB.out⟩

theorem filterMap_snoc {α β : Type} (f : α → Option β) (l : List α) (x : α) : (l ++ [x]).filterMap f = l.filterMap f ++ (match f x with | some y => [y] | none => []) := by
  rw [List.filterMap_append]
  cases h : f x <;> simp [h]

set_option maxRecDepth 100000 in
set_option maxHeartbeats 4000000 in
theorem belowC_any (w : World) (b row : Nat) (m : Mx) (vl : Value) (l : List Cd) (tier : Nat) (h : MxAt w b m) (hrow : row < m.r) (hl : RdC w vl l) (hll : l.length ≤ 1000) (ht : tier < 256) :
    Calls Try.prog 64 #[.pointer (some ⟨b, 0, none⟩), .int .i64 row, vl, .int .u8 (tier : Nat)] w fun e w' => ∃ v, e = .returned v ∧ w'.ownsRow w.heap.size 80 2 v (m.who row l tier).length (ccels (m.who row l tier)) ∧ Below w.heap.size w w' := by
  have HRW := hid (row_any w b row m h hrow)
  have hjn : (m.row row).length ≤ 16 := Nat.le_trans (jobs_len _ _) (Nat.le_trans (m.at_len _) h.n16)
  have HL := hid hl
  obtain ⟨al, cl, rfl, hlc1, hlc2⟩ := hl.len
  obtain ⟨ln, hln⟩ : ∃ n, n = l.length := ⟨_, rfl⟩
  rw [← hln] at HL hlc1 hll ⊢
  have HLN := hid hln
  clear h hl hln
  unfold Mx.who Mx.lows
  generalize m.row row = J at *
  go_enter Try.func64, Try.ntmps64
  go_wp2_with fail
  refine HRW.out.mono ?_
  rintro e w1 ⟨vj, rfl, hvj, -, hb1⟩
  have HR := hid (RdV.of_own hvj)
  obtain ⟨aj, cj, rfl, hcj1, hcj2⟩ := owns_slice hvj
  have HB1 := hid hb1
  obtain ⟨n, hn⟩ : ∃ n, n = J.length := ⟨_, rfl⟩
  rw [← hn] at hjn hcj1 HR ⊢
  have HN := hid hn
  clear hvj hb1 hn HRW
  go_wp2_with fail
  go_loopw [9, 17] (fun u i wr => ∃ k : Nat, i = .int .i64 k ∧ k ≤ n ∧ wr.ownsRow w1.heap.size 80 2 u ((J.take k).filterMap (lowC l tier)).length (ccels ((J.take k).filterMap (lowC l tier))) ∧ Below w1.heap.size w1 wr) (fun _ i _ => n - (intOf i).toNat)
  case atStart => exact ⟨0, rfl, Nat.zero_le _, World.ownsRow_nil _ _ _ _, Below.refl _ _⟩
  case round =>
    obtain ⟨k, rfl, hk, ho, hb⟩ := hrel
    have HB := hid hb
    have hsz := hb.size
    by_cases hkn : k < n
    · obtain ⟨j, hj⟩ : ∃ j, J[k]? = some j := ⟨_, List.getElem?_eq_getElem (by have := HN.out; omega)⟩
      obtain ⟨-, g, off, rfl, hg, hcell⟩ := RdV.at1 (HR.out.all hb) k (uv j) (by rw [List.getElem?_map, hj]; rfl)
      have hc0 : wr.cell? ⟨g, off + k, none⟩ = some (.int .u32 (j : Nat)) := hcell
      have hki : (k : Int) < (n : Int) := by omega
      have HJ := hid (take_snoc' _ _ _ hj)
      obtain ⟨y1, hy1⟩ : ∃ y, y = wr.alloc (.cells #[.int .u32 (j : Nat)] 33) := ⟨_, rfl⟩
      have hby : Below wr.heap.size wr y1 := by rw [hy1]; exact (Below.refl _ _).alloc (Nat.le_refl _) _
      have hbx : y1.heap[wr.heap.size]? = some (.cells #[.int .u32 (j : Nat)] 33 (0, 0)) := by rw [hy1]; exact heap_alloc_new wr _
      obtain ⟨pb, hpb⟩ : ∃ p, p = wr.heap.size := ⟨_, rfl⟩
      rw [← hpb] at hbx
      have o0 : y1.cell? ⟨pb, 0, none⟩ = some (.int .u32 (j : Nat)) := (cell_of_row _ _ _ _ _ _ hbx).trans rfl
      have HBY := hid (hb.trans (hby.mono hsz))
      have hys := hby.size
      have hlr := ((HL.out.below HB1.out).below (HB.out.trans (hby.mono hsz)))
      have HLR := hid hlr
      have HIX := hid (indexC_any y1 _ l j pb hlr o0 (by have := HLN.out; omega))
      have HOY := hid (owns_below ho hby)
      have hfl : ((J.take k).filterMap (lowC l tier)).length ≤ 16 := Nat.le_trans (List.length_filterMap_le _ _) (by rw [List.length_take]; omega)
      generalize hQ : (J.take k).filterMap (lowC l tier) = Q at *
      have HQ := hid hQ
      clear ho hb hj hby hbx hcell hlr hQ
      go_upto_region 5 with (fail)
      rw [← hy1, ← hpb]
      clear hy1 hpb hc0
      go_wp2_with fail
      refine HIX.out.mono ?_
      rintro e w2 ⟨i, rfl, hi, hb2⟩
      have HB2 := hid (HBY.out.trans (hb2.mono HBY.out.size))
      have hs2 := hb2.size
      have HO2 := hid (owns_below HOY.out hb2)
      have HL2 := hid (HLR.out.below hb2)
      rcases hi with ⟨rfl, hf⟩ | ⟨p, x, rfl, hp, hf⟩
      · have HE := hid (show (J.take (k + 1)).filterMap (lowC l tier) = Q by rw [HJ.out, filterMap_snoc, HQ.out]; unfold lowC; rw [hf]; simp)
        clear hb2 hf
        go_wp2_with fail
        go_roundw
        case rel => exact ⟨k + 1, by go_num, by omega, by rw [HE.out]; exact HO2.out, HB2.out⟩
        case measure => simp [intOf]; omega
      · obtain ⟨b1, b2, g', off', rfl, hg', z0, z1⟩ := HL2.out.at hp
        have hpl := (List.getElem?_eq_some_iff.1 hp).1
        have hpn : p < ln := by have := HLN.out; omega
        have hpi : (p : Int) < (ln : Int) := by omega
        have hp0 : (0 : Int) ≤ (p : Int) := by omega
        clear hb2 hp hpl
        by_cases hlow : x.2 < tier
        · have hli : (x.2 : Int) < (tier : Int) := by omega
          have HE := hid (show (J.take (k + 1)).filterMap (lowC l tier) = Q ++ [x] by rw [HJ.out, filterMap_snoc, HQ.out]; unfold lowC; rw [hf]; simp [hlow])
          have hsrc := hid (SrcC.lit w2 #[.int .u32 (x.1 : Nat), .int .u8 (x.2 : Nat)] 80 1 [.int .u32 (x.1 : Nat), .int .u8 (x.2 : Nat)] rfl)
          have hof := hid (owns_below HO2.out ((Below.refl _ _).alloc (Nat.le_refl _) (.cells #[.int .u32 (x.1 : Nat), .int .u8 (x.2 : Nat)] 80)))
          have HZ := hid (show (w2.alloc (.cells #[.int .u32 (x.1 : Nat), .int .u8 (x.2 : Nat)] 80)).heap.size = w2.heap.size + 1 by simp)
          generalize hql : Q.length = ql at *
          have HQL := hid hql
          have hs3 := HB2.out.size
          clear hf hlow hql
          go_wp2_with (first
            | (at_builtin; (refine appsw (by rfl) 56 80 (.tmp 35) (.tmp 40) rfl w1.heap.size 2 8 _ Try.underlying56 infoCand rfl (by decide) _ _ ql 1 (ql + 1) _ _ rfl rfl hof.out hsrc.out rfl (by intro y hy; simp only [List.mem_cons, List.not_mem_nil, or_false] at hy; rcases hy with rfl | rfl <;> rfl) rfl (by omega) (by omega) (by have := HZ.out; omega) ?_); intro ad9 cp9 wA hoA hgA; have HOA := hid hoA; have HBA := hid (show Below w1.heap.size w1 wA from (HB2.out.alloc (by omega) _).grown hgA (by have := HZ.out; omega) (fun g hg => (World.ownsRow.lt HO2.out g hg).1)); clear hoA hgA)
            | fail)
          go_roundw
          case rel => exact ⟨k + 1, by go_num, by omega, by rw [HE.out, ccels_snoc, List.length_append, HQL.out]; exact HOA.out, HBA.out⟩
          case measure => simp [intOf]; omega
        · have hli : ¬ (x.2 : Int) < (tier : Int) := by omega
          have HE := hid (show (J.take (k + 1)).filterMap (lowC l tier) = Q by rw [HJ.out, filterMap_snoc, HQ.out]; unfold lowC; rw [hf]; simp [hlow])
          clear hf hlow
          go_wp2_with fail
          go_roundw
          case rel => exact ⟨k + 1, by go_num, by omega, by rw [HE.out]; exact HO2.out, HB2.out⟩
          case measure => simp [intOf]; omega
    · have hki : ¬ (k : Int) < (n : Int) := by omega
      have e : J.take k = J := by rw [show k = n by omega, HN.out, List.take_length]
      rw [e] at ho
      obtain ⟨q, hq⟩ : ∃ q, q = J.filterMap (lowC l tier) := ⟨_, rfl⟩
      rw [← hq] at ho
      have HQ := hid hq
      have hql : q.length ≤ 10000 := by rw [hq]; have := List.length_filterMap_le (lowC l tier) J; have := HN.out; omega
      have HS := hid (sortC_any wr w1.heap.size _ q ho hql)
      have HGE := hid (fun k hk => (World.ownsRow.lt ho k hk).1)
      clear ho hb e hq
      go_wp2_with fail
      refine HS.out.mono ?_
      rintro e w3 ⟨rfl, ho3, hk3⟩
      have HO3 := hid ho3
      have HB3 := hid (HB1.out.trans ((HB.out.trans (below_of_keepsC hk3 HB.out.size HGE.out)).mono HB1.out.size))
      have hs1 := HB1.out.size
      clear ho3 hk3
      go_wp2_with fail
      go_ret
      exact ⟨_, rfl, by rw [sortC_len, ← HQ.out]; exact owns_base HO3.out hs1, HB3.out⟩

end Go.Proofs.Ytdongghjchnpbaa

namespace Go.Proofs.Ytdongghjchnpbaa
open Go.RowKit Go.Shelf
set_option linter.unusedVariables false
set_option linter.unusedSimpArgs false

theorem w64a (a b : Nat) (h : a + b < 9223372036854775807) : Go.RowKit.wrap64 ((a : Int) + (b : Int)) = ((a + b : Nat) : Int) := by unfold Go.RowKit.wrap64; omega

theorem meas_dec {n i : Nat} (h : i < n) : n - (i + 1) < n - i := by omega

theorem cnt_le (m : Mx) (j : Nat) (hn : m.n ≤ 16) : m.cnt j ≤ 16 := by
  unfold Mx.cnt
  split
  · exact Nat.le_trans (List.length_filter_le _ _) (Nat.le_trans (m.at_len _) hn)
  · omega
theorem sumC_le (m : Mx) (hn : m.n ≤ 16) : ∀ q : List Cd, m.sumC q ≤ q.length * 16
  | [] => by simp [Mx.sumC]
  | c :: q => by
    rw [Mx.sumC_cons, List.length_cons]
    have := cnt_le m c.1 hn
    have := sumC_le m hn q
    omega

theorem who_bounds {m : Mx} {row : Nat} {l : List Cd} {tier : Nat} (hb : ∀ x ∈ l, x.1 < 4294967296 ∧ x.2 < 256) : ∀ x ∈ m.who row l tier, x.1 < 4294967296 ∧ x.2 < 256 := by
  intro x hx
  have h1 : x ∈ m.lows row l tier := (sortC_perm _).mem_iff.1 hx
  unfold Mx.lows at h1
  obtain ⟨j, _, h2⟩ := List.mem_filterMap.1 h1
  exact hb x (lowC_some h2).1

/-- What leaving tells. -/
def LeaveIs (w : World) (o : Option (List Cd)) (e : Ending) (w' : World) : Prop :=
  Below w.heap.size w w' ∧ match o with
  | none => e = .returned (.tuple #[.slice none 0 0, .bool false])
  | some q => ∃ v, e = .returned (.tuple #[v, .bool true]) ∧ RdC w' v q

theorem leaving_low (w : World) (b : Nat) (row : Int) (vl : Value) (tier : Nat) (k : Int) (hk : k < 1) :
    Calls Try.prog 53 #[.pointer (some ⟨b, 0, none⟩), .int .i64 row, vl, .int .u8 (tier : Nat), .int .i64 k] w fun e w' => e = .returned (.tuple #[.slice none 0 0, .bool false]) ∧ w = w' := by
  go_enter Try.func53, Try.ntmps53
  go_wp2_with fail
  go_ret2
  exact ⟨rfl, rfl⟩

set_option maxRecDepth 100000 in
set_option maxHeartbeats 4000000 in
theorem leaving_any (w : World) (b row : Nat) (m : Mx) (vl : Value) (l : List Cd) (tier : Nat) (k : Int) (h : MxAt w b m) (hrow : row < m.r) (hl : RdC w vl l) (hll : l.length ≤ 1000) (ht : tier < 256) (hlb : ∀ x ∈ l, x.1 < 4294967296 ∧ x.2 < 256) :
    Calls Try.prog 53 #[.pointer (some ⟨b, 0, none⟩), .int .i64 row, vl, .int .u8 (tier : Nat), .int .i64 k] w (LeaveIs w (m.leave row l tier k)) := by
  by_cases hk1 : k < 1
  · refine (leaving_low w b row vl tier k hk1).mono ?_
    rintro e w' ⟨rfl, rfl⟩
    unfold LeaveIs Mx.leave
    rw [if_pos hk1]
    exact ⟨Below.refl _ _, rfl⟩
  · have HE : m.leave row l tier k = m.lv k (m.free row).length (m.who row l tier) := by unfold Mx.leave; rw [if_neg hk1]
    rw [HE]
    clear HE
    have HFR := hid (free_any w b row m h hrow)
    have HBL := hid (fun w' (hb : Below w.heap.size w w') => belowC_any w' b row m vl l tier (h.below hb h.lt) hrow (hl.below hb) hll ht)
    have hfl : (m.free row).length ≤ 16 := Nat.le_trans (m.at_len _) h.n16
    have hwl : (m.who row l tier).length ≤ 16 := Nat.le_trans (m.who_len _ _ _) h.n16
    have HWB := hid (who_bounds (m := m) (row := row) (tier := tier) hlb)
    have HH := hid h
    have HBT := hid h.lt
    have HSU := hid (fun q => sumC_le m h.n16 q)
    have HCN := hid (fun j => cnt_le m j h.n16)
    generalize hF : (m.free row).length = F at *
    generalize hW : m.who row l tier = W at *
    have hki : (1 : Int) ≤ k := by omega
    have hki2 : ¬ k < 1 := hk1
    clear h hl hll hlb hk1 hF hW
    go_enter Try.func53, Try.ntmps53
    go_wp2_with fail
    refine HFR.out.mono ?_
    rintro e w1 ⟨rfl, hb1⟩
    have HB1 := hid hb1
    have HBL1 := hid (HBL.out w1 hb1)
    clear hb1
    go_wp2_with fail
    refine HBL1.out.mono ?_
    rintro e w2 ⟨v, rfl, hv, hb2⟩
    have hr2 := RdC.of_own hv HWB.out
    obtain ⟨a, c, rfl, hc1, hc2⟩ := hr2.len
    have HR := hid hr2
    have HB2 := hid (HB1.out.trans (hb2.mono HB1.out.size))
    obtain ⟨n, hn⟩ : ∃ n, n = W.length := ⟨_, rfl⟩
    rw [← hn] at hwl hc1 HR ⊢
    have HN := hid hn
    have HM2 := hid (HH.out.below HB2.out HBT.out)
    clear hv hr2 hb2 hn
    go_wp2_with fail
    go_loopw [12, 14] (fun rv nv wr => ∃ i : Nat, nv = .int .i64 i ∧ i ≤ n ∧ rv = .int .i64 ((F + m.sumC (W.take i) : Nat) : Int) ∧ (∀ i', i' < i → ((F + m.sumC (W.take i') : Nat) : Int) < k) ∧ Below w2.heap.size w2 wr) (fun _ nv _ => n - (intOf nv).toNat)
    case atStart => exact ⟨0, rfl, Nat.zero_le _, by simp [Mx.sumC], fun i' h => absurd h (Nat.not_lt_zero _), Below.refl _ _⟩
    case round =>
      obtain ⟨i, rfl, hi, rfl, hall, hb⟩ := hrel
      have HB := hid hb
      have HA := hid hall
      have HRW := hid (HR.out.below hb)
      have HBW := hid (HB2.out.trans (hb.mono HB2.out.size))
      have hsu : m.sumC (W.take i) ≤ 256 := by
        have := HSU.out (W.take i)
        rw [List.length_take] at this
        omega
      generalize hs : m.sumC (W.take i) = s at *
      have HS := hid hs
      have HFS := hid (show F + s < 100000 by omega)
      obtain ⟨fs, hfs⟩ : ∃ z, z = F + s := ⟨_, rfl⟩
      rw [← hfs] at HFS ⊢
      have hfsn := HFS.out
      have HFQ := hid hfs
      clear hb hall hs hfs
      by_cases hlt : (fs : Int) < k
      · by_cases hin : i < n
        · have hini : (i : Int) < (n : Int) := by omega
          obtain ⟨x, hx⟩ : ∃ x, W[i]? = some x := ⟨_, List.getElem?_eq_getElem (by have := HN.out; omega)⟩
          obtain ⟨b1, b2, g, off, rfl, hg, z0, z1⟩ := HRW.out.at hx
          have HX := hid (take_snoc' _ _ _ hx)
          have HC := hid (cells_any wr b m x.1 (HM2.out.below HB.out (show b < w2.heap.size from Nat.lt_of_lt_of_le HBT.out HB2.out.size)))
          have hcn := HCN.out x.1
          generalize hcx : m.cnt x.1 = cx at *
          have HCX := hid hcx
          have hw1 := w64a fs cx (by omega)
          have hw2 := w64t i (by omega)
          have HLT := hid hlt
          clear hx z1 hcx
          go_wp2_with fail
          refine HC.out.mono ?_
          rintro e w3 ⟨rfl, hb3⟩
          have HB3 := hid (HB.out.trans (hb3.mono HB.out.size))
          clear hb3
          go_wp2_with fail
          have HW1 := hid hw1
          have HW2 := hid hw2
          clear b1 b2 hcn hfsn hsu hw1 hw2 hlt
          try rw [HW2.out]
          try rw [HW1.out]
          go_roundw
          case rel => exact ⟨i + 1, rfl, Nat.succ_le_of_lt hin, by rw [HX.out, Mx.sumC_snoc, HS.out, HCX.out, ← Nat.add_assoc, ← HFQ.out], fun i' h' => by
            by_cases e : i' = i
            · subst e; rw [HS.out, ← HFQ.out]; exact HLT.out
            · exact HA.out i' (Nat.lt_of_le_of_ne (Nat.le_of_lt_succ h') e), HB3.out⟩
          case measure => simp [intOf]; first | exact meas_dec hin | exact hin
        · have hini : ¬ (i : Int) < (n : Int) := by omega
          have HQ := hid (show m.lv k F W = none from Mx.lv_of_none fun i' h' => by
            by_cases e : i' < i
            · exact HA.out i' e
            · have e2 : i' = i := by have := HN.out; omega
              subst e2; rw [HS.out, ← HFQ.out]; exact hlt)
          clear hin
          go_wp2_with fail
          go_ret2
          unfold LeaveIs
          rw [HQ.out]
          exact ⟨HBW.out, rfl⟩
      · have HQ := hid (show m.lv k F W = some (W.take i) from Mx.lv_of (by have := HN.out; omega) (by rw [HS.out, ← HFQ.out]; omega) HA.out)
        have HT := hid (HRW.out.take i (by have := HN.out; omega))
        have hic : i ≤ c := by omega
        have hlt2 : ¬ (fs : Int) < k := hlt
        have hlt3 : k ≤ (fs : Int) := by omega
        go_wp2_with fail
        go_ret2
        unfold LeaveIs
        rw [HQ.out]
        exact ⟨HBW.out, _, rfl, HT.out⟩

theorem of15_any (w : World) (b row : Nat) (m : Mx) (vl : Value) (l : List Cd) (tier : Nat) (k : Int) (h : MxAt w b m) (hrow : row < m.r) (hl : RdC w vl l) (hll : l.length ≤ 1000) (ht : tier < 256) (hlb : ∀ x ∈ l, x.1 < 4294967296 ∧ x.2 < 256) :
    Calls Try.prog 28 #[.pointer (some ⟨b, 0, none⟩), .int .i64 row, vl, .int .u8 (tier : Nat), .int .i64 k] w fun e w' => ∃ u, e = .returned (.tuple #[u, .bool (m.leave row l tier k).isSome]) ∧ w'.ownsRow w.heap.size 33 1 u ((m.leave row l tier k).getD []).length (((m.leave row l tier k).getD []).map fun c => uv c.1) ∧ Below w.heap.size w w' := by
  have HL := hid (leaving_any w b row m vl l tier k h hrow hl hll ht hlb)
  have hq : ∀ q, m.leave row l tier k = some q → q.length ≤ 16 := fun q hq => Nat.le_trans (Mx.leave_len hq) h.n16
  cases hv : m.leave row l tier k with
  | none =>
    rw [hv] at HL
    clear h hl hq hv
    go_enter Try.func28, Try.ntmps28
    go_wp2_with fail
    refine HL.out.mono ?_
    rintro e w1 ⟨hb, rfl⟩
    have HB := hid hb
    have HNU := hid (numbers_any w1 _ [] (RdC.nil w1) (by simp))
    clear hb
    go_wp2_with fail
    refine HNU.out.mono ?_
    rintro e w2 ⟨u, rfl, ho, hb2⟩
    have HO := hid ho
    have HB2 := hid (HB.out.trans (hb2.mono HB.out.size))
    clear ho hb2
    go_wp2_with fail
    go_ret2
    exact ⟨_, rfl, owns_base HO.out HB.out.size, HB2.out⟩
  | some q =>
    have hql := hq q hv
    rw [hv] at HL
    clear h hl hq hv
    go_enter Try.func28, Try.ntmps28
    go_wp2_with fail
    refine HL.out.mono ?_
    rintro e w1 ⟨hb, v, rfl, hr⟩
    have HB := hid hb
    have HNU := hid (numbers_any w1 _ q hr (by omega))
    clear hb hr
    go_wp2_with fail
    refine HNU.out.mono ?_
    rintro e w2 ⟨u, rfl, ho, hb2⟩
    have HO := hid ho
    have HB2 := hid (HB.out.trans (hb2.mono HB.out.size))
    clear ho hb2
    go_wp2_with fail
    go_ret2
    exact ⟨_, rfl, owns_base HO.out HB.out.size, HB2.out⟩

end Go.Proofs.Ytdongghjchnpbaa

namespace Go.Proofs.Ytdongghjchnpbaa
open Go.RowKit Go.Shelf
set_option linter.unusedVariables false
set_option linter.unusedSimpArgs false

theorem results_cellC {fn : Func} {p u : Tmp} {ty : TypeId} (h : fn.results = #[.cell p ty, .tmp u]) (tmps : Array Value) (w : World) (v : Value) (g : Nat) (t : TypeId) (cs : Array Value) (fr : Nat × Nat) (fs : Array Field)
    (hp : tmps.getD p undef = .pointer (some ⟨g, 0, none⟩)) (hv : tmps.getD u undef = v) (hg : w.heap[g]? = some (.cells cs t fr))
    (hu : Try.prog.underlying ty = some (.struct fs)) (hi : (Try.prog.info? ty).map (·.size) = some cs.size) :
    (results fn tmps).run Try.prog w = .ok (.tuple #[.agg cs, v]) w := by
  rw [results_cell_tmp h, hp, hv]
  simp [asAddr, run_loadVar_row w g t ty cs fr (.struct fs) hg hu rfl hi]

theorem setC2 {w : World} {g : Nat} {A B C D : Value} {T : TypeId} (hg : w.heap[g]? = some (.cells #[A, B] T (0, 0))) : ((w.setCell ⟨g, 0, none⟩ C).setCell ⟨g, 1, none⟩ D).heap[g]? = some (.cells #[C, D] T (0, 0)) := by
  rw [heap_setCell_same _ _ _ _ _ _ (heap_setCell_same _ _ _ _ _ _ hg)]
  simp

/-- What Choose tells. -/
def ChoIs (w : World) (o : Option (Nat × List Cd)) (e : Ending) (w' : World) : Prop :=
  Below w.heap.size w w' ∧ match o with
  | none => e = .returned (.tuple #[.agg #[.int .i64 0, .slice none 0 0], .bool false])
  | some p => ∃ u, e = .returned (.tuple #[.agg #[.int .i64 (p.1 : Nat), u], .bool true]) ∧ w'.ownsRow w.heap.size 33 1 u p.2.length (p.2.map fun c => uv c.1)

/-- In the midst of it. -/
def ChoMid (wr : World) (o : Option (Nat × List Cd)) (lv av fv : Value) : Prop :=
  (o = none ∧ lv = .slice none 0 0 ∧ av = .int .i64 0 ∧ fv = .bool false) ∨ ∃ bb p, o = some (bb, p) ∧ RdC wr lv p ∧ av = .int .i64 (bb : Nat) ∧ fv = .bool true ∧ p.length ≤ 16

theorem ChoMid.below {wr w' : World} {o : Option (Nat × List Cd)} {lv av fv : Value} (h : ChoMid wr o lv av fv) (hb : Below wr.heap.size wr w') : ChoMid w' o lv av fv := by
  rcases h with h | ⟨bb, p, h1, h2, h3⟩
  · exact .inl h
  · exact .inr ⟨bb, p, h1, h2.below hb, h3⟩

theorem step15_none {f : Nat → Option (List Cd)} {k : Nat} (h : f k = none) : best15 f (k + 1) = best15 f k := by rw [best15_succ]; unfold step15; rw [h]
theorem step15_first {f : Nat → Option (List Cd)} {k : Nat} {q : List Cd} (h : f k = some q) (hb : best15 f k = none) : best15 f (k + 1) = some (k, q) := by rw [best15_succ]; unfold step15; rw [h, hb]
theorem step15_less {f : Nat → Option (List Cd)} {k : Nat} {q : List Cd} {p : Nat × List Cd} (h : f k = some q) (hb : best15 f k = some p) (hh : Harm q p.2) : best15 f (k + 1) = some (k, q) := by rw [best15_succ]; unfold step15; rw [h, hb]; simp only; rw [if_pos hh]
theorem step15_stay {f : Nat → Option (List Cd)} {k : Nat} {q : List Cd} {p : Nat × List Cd} (h : f k = some q) (hb : best15 f k = some p) (hh : ¬ Harm q p.2) : best15 f (k + 1) = best15 f k := by rw [best15_succ]; unfold step15; rw [h, hb]; simp only; rw [if_neg hh]

set_option maxRecDepth 100000 in
set_option maxHeartbeats 4000000 in
theorem choose15_any (w : World) (b : Nat) (m : Mx) (vl : Value) (l : List Cd) (tier : Nat) (K : Int) (h : MxAt w b m) (hl : RdC w vl l) (hll : l.length ≤ 1000) (ht : tier < 256) (hlb : ∀ x ∈ l, x.1 < 4294967296 ∧ x.2 < 256) :
    Calls Try.prog 26 #[.pointer (some ⟨b, 0, none⟩), vl, .int .u8 (tier : Nat), .int .i64 K] w (ChoIs w (best15 (fun r => m.leave r l tier K) m.r)) := by
  obtain ⟨y0, hy0⟩ : ∃ y, y = w.alloc (.cells #[.int .i64 0, .slice none 0 0] 62) := ⟨_, rfl⟩
  have hb0 : Below w.heap.size w y0 := by rw [hy0]; exact (Below.refl _ _).alloc (Nat.le_refl _) _
  have hg0 : y0.heap[w.heap.size]? = some (.cells #[.int .i64 0, .slice none 0 0] 62 (0, 0)) := by rw [hy0]; exact heap_alloc_new w _
  obtain ⟨pb, hpb⟩ : ∃ p, p = w.heap.size := ⟨_, rfl⟩
  rw [← hpb] at hg0
  have hpl : pb < y0.heap.size := (Array.getElem?_eq_some_iff.1 hg0).1
  have HG := hid hg0
  have HB0 := hid hb0
  have HPB := hid hpb
  have HSZ := hid (size_any y0 b m (h.below hb0 h.lt))
  have HLV := hid (fun W (hb : Below y0.heap.size y0 W) row (hr : row < m.r) => leaving_any W b row m vl l tier K ((h.below hb0 h.lt).below hb (Nat.lt_of_lt_of_le h.lt hb0.size)) hr ((hl.below hb0).below hb) hll ht hlb)
  have HQL := hid (fun row q (hq : m.leave row l tier K = some q) => show q.length ≤ 16 from Nat.le_trans (Mx.leave_len hq) h.n16)
  have hr8 := h.r8
  generalize hf : (fun r => m.leave r l tier K) = f
  have HLV2 := hid (show ∀ W, Below y0.heap.size y0 W → ∀ row, row < m.r → Calls Try.prog 53 #[.pointer (some ⟨b, 0, none⟩), .int .i64 row, vl, .int .u8 (tier : Nat), .int .i64 K] W (LeaveIs W (f row)) from fun W hb row hr => by rw [← hf]; exact HLV.out W hb row hr)
  have HQL2 := hid (show ∀ row q, f row = some q → q.length ≤ 16 from fun row q hq => by rw [← hf] at hq; exact HQL.out row q hq)
  clear h hl hll ht hlb hb0 hg0 hf HLV HQL
  generalize hR : m.r = R at *
  clear hR
  go_enter Try.func26, Try.ntmps26
  go_upto_region 1 with (fail)
  rw [← hy0, ← hpb]
  clear hy0 hpb
  go_wp2_with fail
  refine HSZ.out.mono ?_
  rintro e w1 ⟨rfl, nd, hnd⟩
  have HB1 := hid (show Below y0.heap.size y0 w1 by rw [hnd]; exact ⟨rfl, rfl, rfl, Nat.le_refl _, fun _ _ => rfl⟩)
  clear hnd
  go_wp2_with fail
  go_loopw [12, 13, 14, 24] (fun lv av fv i wr => ∃ k : Nat, i = .int .i64 k ∧ k ≤ R ∧ ChoMid wr (best15 f k) lv av fv ∧ Below y0.heap.size y0 wr) (fun _ _ _ i _ => R - (intOf i).toNat)
  case atStart => exact ⟨0, rfl, Nat.zero_le _, .inl ⟨rfl, rfl, rfl, rfl⟩, HB1.out⟩
  case round =>
    obtain ⟨k, rfl, hk, hm, hb⟩ := hrel
    have HB := hid hb
    by_cases hkn : k < R
    · have hki : (k : Int) < (R : Int) := by omega
      have HM := hid hm
      have HL := hid (HLV2.out wr hb k hkn)
      clear hb hm
      cases hv : f k with
      | none =>
        rw [hv] at HL
        have HE := hid (step15_none hv)
        clear hv
        go_wp2_with fail
        refine HL.out.mono ?_
        rintro e w2 ⟨hb2, rfl⟩
        have HB2 := hid (HB.out.trans (hb2.mono HB.out.size))
        have HM2 := hid (HM.out.below hb2)
        clear hb2
        go_wp2_with fail
        go_roundw
        case rel => exact ⟨k + 1, by go_num, by omega, by rw [HE.out]; exact HM2.out, HB2.out⟩
        case measure => simp [intOf]; omega
      | some q =>
        have hq16 := HQL2.out k q hv
        rw [hv] at HL
        have HV := hid hv
        clear hv
        go_upto_region 8 with (first
          | (go_at_call 53; (with_reducible refine HL.out.mono ?_); rintro e w2 ⟨hb2, v2, rfl, hr2⟩; have HB2 := hid (HB.out.trans (hb2.mono HB.out.size)); have hm2 := HM.out.below hb2; have HR2 := hid hr2; clear hb2 hr2)
          | fail)
        rcases hm2 with ⟨ho, rfl, rfl, rfl⟩ | ⟨bb, p, ho, hp, rfl, rfl, hp16⟩
        · have HE := hid (step15_first HV.out ho)
          clear ho
          go_wp2_with fail
          go_roundw
          case rel => exact ⟨k + 1, by go_num, by omega, .inr ⟨k, q, HE.out, HR2.out, rfl, rfl, hq16⟩, HB2.out⟩
          case measure => simp [intOf]; omega
        · have HH := hid (harm_any w2 _ _ q p HR2.out hp (by omega) (by omega))
          have HP := hid hp
          by_cases hh : Harm q p
          · have HE := hid (step15_less HV.out ho hh)
            have ho2 := (harmI_harm q p).2 hh
            generalize harmI q p = O at *
            clear ho hh hp
            go_wp2_with (first
              | (go_at_call 54; (with_reducible refine HH.out.mono ?_); rintro e w3 ⟨rfl, hb3⟩; have HB3 := hid (HB2.out.trans (hb3.mono HB2.out.size)); have HR3 := hid (HR2.out.below hb3); clear hb3)
              | fail)
            go_roundw
            case rel => exact ⟨k + 1, by go_num, by omega, .inr ⟨k, q, HE.out, HR3.out, rfl, rfl, hq16⟩, HB3.out⟩
            case measure => simp [intOf]; omega
          · have HE := hid ((step15_stay HV.out ho hh).trans ho)
            have ho2 := mt (harmI_harm q p).1 hh
            generalize harmI q p = O at *
            clear ho hh hp
            go_wp2_with (first
              | (go_at_call 54; (with_reducible refine HH.out.mono ?_); rintro e w3 ⟨rfl, hb3⟩; have HB3 := hid (HB2.out.trans (hb3.mono HB2.out.size)); have HP3 := hid (HP.out.below hb3); clear hb3)
              | fail)
            go_roundw
            case rel => exact ⟨k + 1, by go_num, by omega, .inr ⟨bb, p, HE.out, HP3.out, rfl, rfl, hp16⟩, HB3.out⟩
            case measure => simp [intOf]; omega
    · have hki : ¬ (k : Int) < (R : Int) := by omega
      have hkR : k = R := by omega
      have g5 := (hb.block _ hpl).trans HG.out
      have HG5 := hid g5
      rw [hkR] at hm
      have hpr : pb < wr.heap.size := Nat.lt_of_lt_of_le hpl hb.size
      have x0 : wr.cell? ⟨pb, 0, none⟩ = some (.int .i64 0) := (cell_of_row _ _ _ _ _ _ g5).trans rfl
      have x1 : wr.cell? ⟨pb, 1, none⟩ = some (.slice none 0 0) := (cell_of_row _ _ _ _ _ _ g5).trans rfl
      have z0 : wr.frozen? ⟨pb, 0, none⟩ = false := frozen_of_row _ _ _ _ _ g5
      have z1 : wr.frozen? ⟨pb, 1, none⟩ = false := frozen_of_row _ _ _ _ _ g5
      clear hb g5 hkR hkn
      rcases hm with ⟨ho, rfl, rfl, rfl⟩ | ⟨bb, p, ho, hp, rfl, rfl, hp16⟩
      · have HO := hid ho
        clear ho
        go_wp2_with fail
        (try simp only [Exit.inBlock, Exit.then]); refine bodyPost_ret (results_cellC rfl _ _ _ pb 62 #[.int .i64 0, .slice none 0 0] (0, 0) _ rfl rfl (setC2 HG5.out) Try.underlying62 (by kernel_rfl)) rfl ?_
        unfold ChoIs
        rw [HO.out]
        exact ⟨((HB0.out.trans (HB.out.mono HB0.out.size)).setCell (by rw [HPB.out]; simp) _).setCell (by rw [HPB.out]; simp) _, rfl⟩
      · have HO := hid ho
        have HNU := hid (numbers_any wr _ p hp (by omega))
        clear ho hp x0 x1 z0 z1
        go_upto_region 13 with (fail)
        have HWR := hid (show Below w.heap.size w wr from HB0.out.trans (HB.out.mono HB0.out.size))
        go_wp2_with fail
        refine HNU.out.mono ?_
        rintro e w3 ⟨u, rfl, ho3, hb3⟩
        have g6 := (hb3.block _ hpr).trans HG5.out
        have HG6 := hid g6
        have HO3 := hid ho3
        have HB3 := hid (HWR.out.trans (hb3.mono HWR.out.size))
        have x0 : w3.cell? ⟨pb, 0, none⟩ = some (.int .i64 0) := (cell_of_row _ _ _ _ _ _ g6).trans rfl
        have x1 : w3.cell? ⟨pb, 1, none⟩ = some (.slice none 0 0) := (cell_of_row _ _ _ _ _ _ g6).trans rfl
        have z0 : w3.frozen? ⟨pb, 0, none⟩ = false := frozen_of_row _ _ _ _ _ g6
        have z1 : w3.frozen? ⟨pb, 1, none⟩ = false := frozen_of_row _ _ _ _ _ g6
        have hne : ∀ q, u.ownBlock = some q → q ≠ pb := fun q hq => by have := (World.ownsRow.lt ho3 q hq).1; omega
        have HNE := hid hne
        obtain ⟨au, cu, rfl, -, -⟩ := owns_slice ho3
        clear ho3 hb3 g6 hne
        go_wp2_with fail
        (try simp only [Exit.inBlock, Exit.then]); refine bodyPost_ret (results_cellC rfl _ _ _ pb 62 #[.int .i64 (bb : Nat), .slice au p.length cu] (0, 0) _ rfl rfl (setC2 HG6.out) Try.underlying62 (by kernel_rfl)) rfl ?_
        unfold ChoIs
        rw [HO.out]
        have HS1 := HWR.out.size
        refine ⟨(HB3.out.setCell (by rw [HPB.out]; simp) _).setCell (by rw [HPB.out]; simp) _, _, rfl, ?_⟩
        refine owns_by (owns_base HO3.out HS1) fun q hq => ?_
        have hk : ∀ (W : World) (i : Nat) (v : Value), Keeps (fun k => k = pb) W (W.setCell ⟨pb, i, none⟩ v) := fun W i v => (Keeps.refl (fun k => k = pb) W).setCell (p := ⟨pb, i, none⟩) (fun _ => rfl) _
        have hq3 := (World.ownsRow.lt HO3.out q hq).2
        exact ((hk _ 1 _).block q (Nat.lt_of_lt_of_le hq3 (hk _ 0 _).size) (HNE.out q hq)).trans ((hk _ 0 _).block q hq3 (HNE.out q hq))

end Go.Proofs.Ytdongghjchnpbaa
