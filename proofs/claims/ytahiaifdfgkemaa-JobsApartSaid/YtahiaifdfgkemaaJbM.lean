/-
  Tables of jobs, plainly; where a row of jobs lies.
-/
import Derived.Test.YtahiaifdfgkemaaNoteD
import Derived.Test.YtahiaifdfgkemaaKeepT
import Derived.Test.YtahiaifdfgkemaaAppR
import Derived.Laws.OwnMore
namespace Go.Proofs.Ytahiaifdfgkemaa
open Go.RowKit
set_option linter.unusedVariables false

/-- A job: its number, tier, nodes, ticks, state, credit. -/
abbrev Jb := Nat × Nat × Int × Int × Nat × Int
def jcel (x : Jb) : List Value := [.int .u32 (x.1 : Int), .int .u8 (x.2.1 : Int), .int .i64 x.2.2.1, .int .i64 x.2.2.2.1, .int .u8 (x.2.2.2.2.1 : Int), .int .i64 x.2.2.2.2.2]
def jcels (l : List Jb) : List Value := l.flatMap jcel
def jv (x : Jb) : Value := .agg #[.int .u32 (x.1 : Int), .int .u8 (x.2.1 : Int), .int .i64 x.2.2.1, .int .i64 x.2.2.2.1, .int .u8 (x.2.2.2.2.1 : Int), .int .i64 x.2.2.2.2.2]
theorem jcels_cons (x : Jb) (l : List Jb) : jcels (x :: l) = jcel x ++ jcels l := rfl
theorem jcels_len (l : List Jb) : (jcels l).length = l.length * 6 := by
  induction l with
  | nil => rfl
  | cons x l ih => rw [jcels_cons, List.length_append, ih, List.length_cons]; show 6 + _ = _; omega
theorem jcels_app (l r : List Jb) : jcels (l ++ r) = jcels l ++ jcels r := by unfold jcels; rw [List.flatMap_append]
theorem jcels_take : ∀ (l : List Jb) (k : Nat), (jcels l).take (k * 6) = jcels (l.take k)
  | [], k => by simp [jcels]
  | x :: l, 0 => by simp [jcels]
  | x :: l, k + 1 => by
    have e : (k + 1) * 6 = 6 + k * 6 := by omega
    rw [jcels_cons, e, List.take_add, List.take_succ_cons, jcels_cons, ← jcels_take l k]
    rfl
theorem jcels_drop : ∀ (l : List Jb) (k : Nat), (jcels l).drop (k * 6) = jcels (l.drop k)
  | [], k => by simp [jcels]
  | x :: l, 0 => by simp
  | x :: l, k + 1 => by
    have e : (k + 1) * 6 = 6 + k * 6 := by omega
    rw [jcels_cons, e, ← List.drop_drop, List.drop_succ_cons, ← jcels_drop l k]
    rfl
theorem jcels_at : ∀ (l : List Jb) (k : Nat) (x : Jb) (c : Nat) (v : Value), l[k]? = some x → (jcel x)[c]? = some v → (jcels l)[k * 6 + c]? = some v
  | x :: l, 0, y, c, v, h, hv => by
    simp at h; subst h
    have hc : c < 6 := (List.getElem?_eq_some_iff.1 hv).1
    rw [jcels_cons, List.getElem?_append_left (by show 0 * 6 + c < 6; omega)]
    simpa using hv
  | x :: l, k + 1, y, c, v, h, hv => by
    have e : (k + 1) * 6 + c = 6 + (k * 6 + c) := by omega
    rw [jcels_cons, e, List.getElem?_append_right (by show 6 ≤ _; omega)]
    show (jcels l)[6 + (k * 6 + c) - 6]? = _
    rw [Nat.add_sub_cancel_left]
    exact jcels_at l k y c v (by simpa using h) hv
theorem jcels_set : ∀ (l : List Jb) (k : Nat) (x : Jb) (c : Nat) (v : Value) (y : Jb), l[k]? = some x → jcel y = (jcel x).set c v → c < 6 → (jcels l).set (k * 6 + c) v = jcels (l.set k y)
  | x :: l, 0, z, c, v, y, h, hv, hc => by
    simp at h; subst h
    rw [jcels_cons, List.set_cons_zero, jcels_cons, hv, List.set_append_left _ _ (by show 0 * 6 + c < 6; omega)]
    simp
  | x :: l, k + 1, z, c, v, y, h, hv, hc => by
    have e : (k + 1) * 6 + c = 6 + (k * 6 + c) := by omega
    rw [jcels_cons, List.set_cons_succ, jcels_cons, e, List.set_append_right _ _ (by show 6 ≤ _; omega)]
    show jcel x ++ (jcels l).set (6 + (k * 6 + c) - 6) v = _
    rw [Nat.add_sub_cancel_left, jcels_set l k z c v y (by simpa using h) hv hc]
theorem jcels_one (l : List Jb) : ∀ u ∈ jcels l, u.oneCell' = true := by
  intro u hu
  unfold jcels at hu
  rw [List.mem_flatMap] at hu
  obtain ⟨x, _, hx⟩ := hu
  unfold jcel at hx
  simp at hx
  rcases hx with rfl | rfl | rfl | rfl | rfl | rfl <;> rfl

/-- A row of jobs, read: no longer than a million. -/
def RdJ (w : World) (v : Value) (l : List Jb) : Prop :=
  ∃ a c, v = .slice a l.length c ∧ l.length ≤ c ∧ c ≤ 9223372036854775807 ∧ (l ≠ [] → ∃ b off, a = some ⟨b, off, none⟩ ∧ b < w.heap.size ∧ ∀ k y, (jcels l)[k]? = some y → w.cell? ⟨b, off + k, none⟩ = some y)
theorem RdJ.below {w w' : World} {v : Value} {l : List Jb} (h : RdJ w v l) (hb : Below w.heap.size w w') : RdJ w' v l := by
  obtain ⟨a, c, rfl, h1, h2, h3⟩ := h
  refine ⟨a, c, rfl, h1, h2, fun hn => ?_⟩
  obtain ⟨b, off, e, hlt, hc⟩ := h3 hn
  exact ⟨b, off, e, by have := hb.size; omega, fun k y hk => (hb.cell (p := ⟨b, off + k, none⟩) hlt).trans (hc k y hk)⟩
theorem RdJ.item {w : World} {v : Value} {l : List Jb} (h : RdJ w v l) {k : Nat} {x : Jb} (hk : l[k]? = some x) : ∃ b off c, v = .slice (some ⟨b, off, none⟩) l.length c ∧ l.length ≤ c ∧ c ≤ 9223372036854775807 ∧ b < w.heap.size ∧
    w.cell? ⟨b, off + k * 6, none⟩ = some (.int .u32 (x.1 : Int)) ∧ w.cell? ⟨b, off + k * 6 + 1, none⟩ = some (.int .u8 (x.2.1 : Int)) ∧ w.cell? ⟨b, off + k * 6 + 2, none⟩ = some (.int .i64 x.2.2.1) ∧ w.cell? ⟨b, off + k * 6 + 3, none⟩ = some (.int .i64 x.2.2.2.1) ∧ w.cell? ⟨b, off + k * 6 + 4, none⟩ = some (.int .u8 (x.2.2.2.2.1 : Int)) ∧ w.cell? ⟨b, off + k * 6 + 5, none⟩ = some (.int .i64 x.2.2.2.2.2) := by
  obtain ⟨a, c, rfl, h1, h2, h3⟩ := h
  obtain ⟨b, off, rfl, hlt, hc⟩ := h3 (by rintro rfl; simp at hk)
  have f : ∀ j v, (jcel x)[j]? = some v → w.cell? ⟨b, off + k * 6 + j, none⟩ = some v := fun j v hv => by
    have := hc _ _ (jcels_at l k x j v hk hv)
    rwa [← Nat.add_assoc] at this
  exact ⟨b, off, c, rfl, h1, h2, hlt, f 0 _ rfl, f 1 _ rfl, f 2 _ rfl, f 3 _ rfl, f 4 _ rfl, f 5 _ rfl⟩
/-- A row of a table's own. -/
abbrev OwnJ (w : World) (lo : Nat) (v : Value) (l : List Jb) : Prop := w.ownsRow lo 44 6 v l.length (jcels l)
theorem OwnJ.rd {w : World} {lo : Nat} {v : Value} {l : List Jb} (h : OwnJ w lo v l) : RdJ w v l := by
  rcases owns_shape h with ⟨rfl, h0⟩ | ⟨g, c, rfl, h1, h2, h3, h4⟩
  · have : l = [] := List.eq_nil_of_length_eq_zero h0
    subst this
    exact ⟨none, 0, rfl, Nat.zero_le _, by omega, fun h => absurd rfl h⟩
  · refine ⟨_, c, rfl, h3, h4, fun _ => ⟨g, 0, rfl, h2, fun k y hk => ?_⟩⟩
    have := World.ownsRow.cells h (g := g) rfl k y hk
    rwa [Addr.add_lit] at this

/-- Where a number stands. -/
def pos (l : List Jb) (z : Nat) : Option Nat := l.findIdx? (fun x => x.1 == z)
def posI (l : List Jb) (z : Nat) : Int := match pos l z with | some i => (i : Int) | none => -1
theorem pos_some {l : List Jb} {z i : Nat} (h : pos l z = some i) : ∃ x, l[i]? = some x ∧ x.1 = z ∧ ∀ j y, j < i → l[j]? = some y → y.1 ≠ z := by
  unfold pos at h
  rw [List.findIdx?_eq_some_iff_getElem] at h
  obtain ⟨hi, h1, h2⟩ := h
  refine ⟨l[i], List.getElem?_eq_getElem hi, by simpa using h1, fun j y hj hy => ?_⟩
  have hjl : j < l.length := by omega
  rw [List.getElem?_eq_getElem hjl] at hy
  simp only [Option.some.injEq] at hy
  subst hy
  simpa using h2 j hj
theorem pos_none {l : List Jb} {z : Nat} : pos l z = none ↔ ∀ x ∈ l, x.1 ≠ z := by
  unfold pos
  rw [List.findIdx?_eq_none_iff]
  simp
theorem pos_of {l : List Jb} {z i : Nat} {x : Jb} (hx : l[i]? = some x) (e : x.1 = z) (hb : ∀ j y, j < i → l[j]? = some y → y.1 ≠ z) : pos l z = some i := by
  unfold pos
  rw [List.findIdx?_eq_some_iff_getElem]
  obtain ⟨hi, ei⟩ := List.getElem?_eq_some_iff.1 hx
  refine ⟨hi, by rw [ei]; simpa using e, fun j hj => ?_⟩
  simpa using hb j _ hj (List.getElem?_eq_getElem (by omega))

end Go.Proofs.Ytahiaifdfgkemaa
