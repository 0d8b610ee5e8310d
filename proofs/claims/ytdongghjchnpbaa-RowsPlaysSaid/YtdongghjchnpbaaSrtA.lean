/-
  slices.Sort at []uint32: the array, what compares, insertionSort.
-/
import Derived.Test.YtdongghjchnpbaaRowO
import Derived.Sort.AssemblyPlain
namespace Go.Proofs.Ytdongghjchnpbaa
open Go.RowKit
set_option linter.unusedVariables false

def ltN (x y : Nat) : Bool := decide (x < y)

/-- In block g, from off on, lie the numbers of d; pre ahead of them, tl behind. -/
structure ArrAt (w : World) (g off : Nat) (pre tl : List Value) (d : Array Nat) : Prop where
  blk : w.heap[g]? = some (.cells (pre ++ d.toList.map uv ++ tl).toArray 33 (0, 0))
  off : pre.length = off

theorem ArrAt.lt {w : World} {g off : Nat} {pre tl : List Value} {d : Array Nat} (h : ArrAt w g off pre tl d) : g < w.heap.size := (Array.getElem?_eq_some_iff.1 h.blk).1

theorem ArrAt.cell {w : World} {g off : Nat} {pre tl : List Value} {d : Array Nat} (h : ArrAt w g off pre tl d) (i : Nat) (hi : i < d.size) : w.cell? ⟨g, off + i, none⟩ = some (.int .u32 ((d[i]! : Nat) : Int)) := by
  rw [cell_of_row _ _ _ _ _ _ h.blk, List.getElem?_toArray, List.append_assoc, List.getElem?_append_right (by have := h.off; omega), ← h.off, Nat.add_sub_cancel_left, List.getElem?_append_left (by simpa using hi)]
  simp [uv, hi]

theorem ArrAt.frozen {w : World} {g off : Nat} {pre tl : List Value} {d : Array Nat} (h : ArrAt w g off pre tl d) (i : Nat) : w.frozen? ⟨g, i, none⟩ = false := frozen_of_row _ _ _ _ _ h.blk

theorem ArrAt.drew {w : World} {g off : Nat} {pre tl : List Value} {d : Array Nat} (h : ArrAt w g off pre tl d) (n : Nat) : ArrAt (w.drewN n) g off pre tl d := ⟨h.blk, h.off⟩

theorem set_mid (pre tl : List Value) (d : Array Nat) (i x : Nat) (hi : i < d.size) : (pre ++ d.toList.map uv ++ tl).set (pre.length + i) (uv x) = pre ++ (d.setIfInBounds i x).toList.map uv ++ tl := by
  rw [List.append_assoc, List.set_append_right _ _ (by omega), Nat.add_sub_cancel_left, List.set_append_left _ _ (by simpa using hi), List.append_assoc]
  congr 2
  rw [Array.toList_setIfInBounds, List.map_set]

theorem ArrAt.set {w : World} {g off : Nat} {pre tl : List Value} {d : Array Nat} (h : ArrAt w g off pre tl d) (i x : Nat) (hi : i < d.size) : ArrAt (w.setCell ⟨g, off + i, none⟩ (.int .u32 (x : Int))) g off pre tl (d.setIfInBounds i x) := by
  refine ⟨?_, h.off⟩
  rw [heap_setCell_at _ _ _ _ _ _ _ h.blk, ← h.off]
  congr 3
  exact set_mid pre tl d i x hi

theorem ArrAt.swap {w : World} {g off : Nat} {pre tl : List Value} {d : Array Nat} (h : ArrAt w g off pre tl d) (i j : Nat) (hi : i < d.size) (hj : j < d.size) :
    ArrAt ((w.setCell ⟨g, off + i, none⟩ (.int .u32 ((d[j]! : Nat) : Int))).setCell ⟨g, off + j, none⟩ (.int .u32 ((d[i]! : Nat) : Int))) g off pre tl (Sort.swp d i j) :=
  (h.set i _ hi).set j _ (by simpa using hj)

theorem swp_size (d : Array Nat) (i j : Nat) : (Sort.swp d i j).size = d.size := by simp [Sort.swp]

theorem ArrAt.block {w w' : World} {g off : Nat} {pre tl : List Value} {d : Array Nat} (h : ArrAt w g off pre tl d) (hb : w'.heap[g]? = w.heap[g]?) : ArrAt w' g off pre tl d := ⟨hb.trans h.blk, h.off⟩

/-- What a call makes of it. -/
structure Made (w : World) (g off : Nat) (pre tl : List Value) (d : Array Nat) (w' : World) : Prop where
  arr : ArrAt w' g off pre tl d
  keeps : Keeps (fun k => k = g) w w'

theorem Made.trans {w w1 w2 : World} {g off : Nat} {pre tl : List Value} {d d2 : Array Nat} (h : Made w g off pre tl d w1) (k : Made w1 g off pre tl d2 w2) : Made w g off pre tl d2 w2 := ⟨k.arr, h.keeps.trans k.keeps⟩
theorem Made.refl {w : World} {g off : Nat} {pre tl : List Value} {d : Array Nat} (h : ArrAt w g off pre tl d) : Made w g off pre tl d w := ⟨h, Keeps.refl _ _⟩
theorem Made.drew {w w1 : World} {g off : Nat} {pre tl : List Value} {d : Array Nat} (h : Made w g off pre tl d w1) (n : Nat) : Made w g off pre tl d (w1.drewN n) := ⟨h.arr.drew n, ⟨h.keeps.os, h.keeps.tape, h.keeps.output, h.keeps.size, h.keeps.block⟩⟩
theorem Made.drew1 {w w1 : World} {g off : Nat} {pre tl : List Value} {d : Array Nat} (h : Made w g off pre tl d w1) : Made w g off pre tl d w1.drew := ⟨⟨h.arr.blk, h.arr.off⟩, h.keeps.drew⟩
theorem Made.swap {w w1 : World} {g off : Nat} {pre tl : List Value} {d : Array Nat} (h : Made w g off pre tl d w1) (i j : Nat) (hi : i < d.size) (hj : j < d.size) :
    Made w g off pre tl (Sort.swp d i j) ((w1.setCell ⟨g, off + i, none⟩ (.int .u32 ((d[j]! : Nat) : Int))).setCell ⟨g, off + j, none⟩ (.int .u32 ((d[i]! : Nat) : Int))) :=
  ⟨h.arr.swap i j hi hj, (h.keeps.setCell (fun _ => rfl) _).setCell (fun _ => rfl) _⟩

theorem isnan_any (w : World) (x : Nat) : Calls Try.prog 98 #[.int .u32 (x : Int)] w fun e w' => e = .returned (.bool false) ∧ w = w' := by
  have h : ((x : Int) != (x : Int)) = false := by simp
  go_enter Try.func98, Try.ntmps98
  go_wp2
  go_ret
  exact ⟨rfl, rfl⟩

theorem less_any (w : World) (x y : Nat) : Calls Try.prog 91 #[.int .u32 (x : Int), .int .u32 (y : Int)] w fun e w' => e = .returned (.bool (ltN x y)) ∧ w' = w := by
  have h : decide ((x : Int) < (y : Int)) = ltN x y := by unfold ltN; simp
  have HL := hid h
  clear h
  go_enter Try.func91, Try.ntmps91
  go_wp2_with fail
  refine (isnan_any w x).mono ?_
  rintro e w' ⟨rfl, rfl⟩
  go_wp2
  go_ret
  exact ⟨by rw [← HL.out]; simp, rfl⟩

end Go.Proofs.Ytdongghjchnpbaa
