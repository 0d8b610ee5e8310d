/-
  Slices of slices of bytes that came in; knots one behind the other.
-/
import Derived.Test.YtafpgglebjllbaaUntie
import Derived.Deep.Matrix
import Derived.Deep.QuietTactic
import Derived.BigQuiet
namespace Go.Proofs.Ytafpgglebjllbaa
open Go.RowKit

/-- What the walk is told of a slice of slices of bytes that came in. -/
def IsMat (w : World) (a : Option Addr) (len cap : Nat) : Prop :=
  (a = none ∧ len = 0 ∧ cap = 0) ∨
  ∃ x, a = some x ∧ len ≤ cap ∧ cap ≤ maxLen ∧ ∀ r, r < len → ∃ (A : Option Addr) (L C : Nat) (zs : List Int), w.cell? (x.add r) = some (.slice A L C) ∧ IsRow .u8 w A L C zs

theorem IsMat.bounds {w : World} {a : Option Addr} {len cap : Nat} (h : IsMat w a len cap) : len ≤ cap ∧ cap ≤ 9223372036854775807 := by
  rcases h with ⟨rfl, rfl, rfl⟩ | ⟨x, rfl, h1, h2, _⟩
  · exact ⟨Nat.le_refl _, by omega⟩
  · unfold maxLen at h2
    exact ⟨h1, by omega⟩

/-- Its rows, each cut to its first 100 bytes. -/
theorem IsMat.rows {w : World} {a : Option Addr} {len cap : Nat} (h : IsMat w a len cap) (h0 : 0 < len) :
    ∃ b off, a = some ⟨b, off, none⟩ ∧ b < w.heap.size ∧ ∀ k, k ≤ len → ∃ ts : List (List UInt8), ts.length = k ∧ ∀ r, r < k → ∃ (A : Option Addr) (L C : Nat),
      w.cell? ⟨b, off + r, none⟩ = some (.slice A L C) ∧ L ≤ C ∧ C ≤ 9223372036854775807 ∧ (ts.getD r []).length = min L 100 ∧ Rd w (.slice A (min L 100) C) (ts.getD r []) := by
  rcases h with ⟨_, rfl, _⟩ | ⟨x, rfl, h1, h2, hr⟩
  · omega
  · obtain ⟨b, off, spot⟩ := x
    obtain ⟨A0, L0, C0, z0, hc0, _⟩ := hr 0 h0
    have hs : spot = none := by simpa [Addr.add] using World.cell?_spot hc0
    subst hs
    have hb : b < w.heap.size := by
      have := World.block_lt_of_cell? _ _ hc0
      simpa [Addr.add] using this
    refine ⟨b, off, rfl, hb, fun k hk => ?_⟩
    induction k with
    | zero => exact ⟨[], rfl, fun r hr => absurd hr (by omega)⟩
    | succ k ih =>
      obtain ⟨ts, hl, ht⟩ := ih (by omega)
      obtain ⟨A, L, C, zs, hc, hrow⟩ := hr k (by omega)
      obtain ⟨l, hll, hrd⟩ := hrow.rd (min L 100) (by omega)
      have hbd := hrow.bounds
      refine ⟨ts ++ [l], by simp [hl], fun r hr' => ?_⟩
      by_cases e : r < k
      · obtain ⟨A', L', C', h1', h2', h3', h4', h5'⟩ := ht r e
        have : (ts ++ [l]).getD r [] = ts.getD r [] := by
          simp only [List.getD_eq_getElem?_getD]
          rw [List.getElem?_append_left (by omega)]
        rw [this]
        exact ⟨A', L', C', h1', h2', h3', h4', h5'⟩
      · obtain rfl : r = k := by omega
        have : (ts ++ [l]).getD r [] = l := by
          simp [← hl]
        rw [this]
        rw [Addr.add_lit] at hc
        exact ⟨A, L, C, hc, hbd.1, hbd.2.1, hll, hrd⟩

/-- Knots one behind the other. -/
def cat (ts : List (List UInt8)) : List UInt8 := ts.flatMap Knot.knot

theorem cat_take (ts : List (List UInt8)) (r : Nat) (h : r < ts.length) : cat (ts.take (r + 1)) = cat (ts.take r) ++ Knot.knot (ts.getD r []) := by
  unfold cat
  rw [List.take_succ_eq_append_getElem h, List.flatMap_append]
  simp [List.getElem?_eq_getElem h]

theorem cat_drop (ts : List (List UInt8)) (r : Nat) (h : r < ts.length) : cat (ts.drop r) = Knot.knot (ts.getD r []) ++ cat (ts.drop (r + 1)) := by
  unfold cat
  rw [List.drop_eq_getElem_cons h, List.flatMap_cons]
  simp [List.getElem?_eq_getElem h]

theorem cat_length (ts : List (List UInt8)) (h : ∀ r, r < ts.length → (ts.getD r []).length ≤ 100) (k : Nat) (hk : k ≤ ts.length) : (cat (ts.take k)).length ≤ 106 * k := by
  induction k with
  | zero => simp [cat]
  | succ k ih =>
    rw [cat_take ts k (by omega), List.length_append, Knot.knot_length]
    have := ih (by omega)
    have := h k (by omega)
    omega

theorem cat_drop_length (ts : List (List UInt8)) (k : Nat) : (cat (ts.drop k)).length ≤ (cat ts).length := by
  have : cat ts = cat (ts.take k) ++ cat (ts.drop k) := by
    unfold cat
    rw [← List.flatMap_append, List.take_append_drop]
  rw [this, List.length_append]
  omega

/-- A call that leaves the world alone, inside a region that draws. -/
theorem quiet_first {P : Program} {f : FuncId} {args : Array Value} {w : World} {n : Nat} {v : Value} (h : Calls P f args (w.drewN n) fun e w' => e = .returned v ∧ w.drewN n = w') :
    Calls P f args (w.drewN n) fun e w' => e = .returned v ∧ ∃ m, w' = w.drewN m :=
  h.mono fun _ _ h => ⟨h.1, n, h.2.symm⟩

theorem below_behind {B : Nat} {w w' : World} (h : Below B w w') (n : Nat) : Below B w (w'.drewN n) := ⟨h.os, h.tape, h.output, h.size, h.block⟩

end Go.Proofs.Ytafpgglebjllbaa
