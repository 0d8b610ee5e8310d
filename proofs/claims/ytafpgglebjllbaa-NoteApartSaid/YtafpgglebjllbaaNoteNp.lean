/-
  The document's names and Form of notes: plain words.
-/
import Derived.Test.YtafpgglebjllbaaNoteD
namespace Go.Proofs.Ytafpgglebjllbaa
open Go.RowKit

namespace Note
/-- The places of the fields that a kind names. -/
def nm : Nat → List Nat
  | 1 => [2, 4]
  | 2 => [1, 2, 3, 4]
  | 3 => [6, 7, 8, 9]
  | 4 => [6]
  | 5 => [5, 6]
  | 6 => [5]
  | 7 => [5, 6, 10, 11]
  | 8 => [6, 7, 9]
  | 9 => [6, 7, 8, 12]
  | 10 => [6]
  | 11 => [6]
  | 12 => [4, 6]
  | _ => []

theorem kinds {k : Nat} (h : 1 ≤ k ∧ k ≤ 12) : k = 1 ∨ k = 2 ∨ k = 3 ∨ k = 4 ∨ k = 5 ∨ k = 6 ∨ k = 7 ∨ k = 8 ∨ k = 9 ∨ k = 10 ∨ k = 11 ∨ k = 12 := by omega

theorem nm_lt {k : Nat} (h : 1 ≤ k ∧ k ≤ 12) : ∀ j ∈ nm k, j < 13 := by
  rcases kinds h with rfl | rfl | rfl | rfl | rfl | rfl | rfl | rfl | rfl | rfl | rfl | rfl <;> decide

theorem nm_len {k : Nat} (h : 1 ≤ k ∧ k ≤ 12) : 0 < (nm k).length ∧ (nm k).length ≤ 4 := by
  rcases kinds h with rfl | rfl | rfl | rfl | rfl | rfl | rfl | rfl | rfl | rfl | rfl | rfl <;> decide

/-- Numbers of which those at these places are made 0. -/
def wipe (h : List Nat) (ks : List Nat) : List Nat := ks.foldl (fun h k => h.set k 0) h

theorem wipe_snoc (h ks : List Nat) (k : Nat) : wipe h (ks ++ [k]) = (wipe h ks).set k 0 := by unfold wipe; rw [List.foldl_append]; rfl

theorem wipe_length (h ks : List Nat) : (wipe h ks).length = h.length := by
  unfold wipe
  induction ks generalizing h with
  | nil => rfl
  | cons k ks ih => rw [List.foldl_cons, ih]; simp

def bz (b : Bool) : Nat := if b then 1 else 0
def bitsB (l : List Bool) : Nat := bits (l.map bz) 0

theorem bits_bool (l : List Nat) : ∀ i, bits l i = bits ((l.map fun x => decide (x ≠ 0)).map bz) i := by
  induction l with
  | nil => intro i; rfl
  | cons x l ih =>
    intro i
    simp only [List.map_cons, bits]
    rw [← ih]
    by_cases h : x = 0
    · simp [h, bz]
    · simp [h, bz]

theorem wipe_bool (l ks : List Nat) : (wipe l ks).map (fun x => decide (x ≠ 0)) = ks.foldl (fun h k => h.set k false) (l.map fun x => decide (x ≠ 0)) := by
  unfold wipe
  induction ks generalizing l with
  | nil => rfl
  | cons k ks ih => rw [List.foldl_cons, List.foldl_cons, ih, List.map_set]; rfl

theorem all_bool (l : List Nat) : l.all (fun x => decide (x = 0)) = (l.map fun x => decide (x ≠ 0)).all (fun b => !b) := by
  induction l with
  | nil => rfl
  | cons x l ih => simp only [List.all_cons, List.map_cons, ih]; by_cases h : x = 0 <;> simp [h]

set_option maxRecDepth 1000000 in
theorem clear_bits : ∀ (k : Fin 13), k.val ≠ 0 → ∀ b1 b2 b3 b4 b5 b6 b7 b8 b9 b10 b11 b12 : Bool,
    decide (bitsB [b1, b2, b3, b4, b5, b6, b7, b8, b9, b10, b11, b12] &&& (4095 - may k.val) = 0) = ((nm k.val).foldl (fun h k => h.set k false) [false, b1, b2, b3, b4, b5, b6, b7, b8, b9, b10, b11, b12]).all (fun b => !b) := by
  decide +kernel

/-- The numbers that are looked at. -/
def N.hs (x : N) (L : Nat) : List Nat := 0 :: (x.rest ++ [L])

theorem N.clear_wipe (x : N) (h : 1 ≤ x.k ∧ x.k ≤ 12) : x.clear = (wipe (x.hs x.b.length) (nm x.k)).all (fun y => decide (y = 0)) := by
  rw [all_bool, wipe_bool]
  have := clear_bits ⟨x.k, by omega⟩ (by simp only; omega)
  unfold N.clear N.has N.hs N.rest
  rw [bits_bool]
  simp only [List.cons_append, List.nil_append, List.map_cons, List.map_nil]
  have := this (decide (x.n ≠ 0)) (decide (x.e ≠ 0)) (decide (x.l ≠ 0)) (decide (x.t ≠ 0)) (decide (x.g ≠ 0)) (decide (x.j ≠ 0)) (decide (x.v ≠ 0)) (decide (x.r ≠ 0)) (decide (u64 x.c ≠ 0)) (decide (x.f ≠ 0)) (decide (x.o ≠ 0)) (decide (x.b.length ≠ 0))
  unfold bitsB at this
  simp only [List.map_cons, List.map_nil] at this
  rw [this]
  rfl
end Note

end Go.Proofs.Ytafpgglebjllbaa
