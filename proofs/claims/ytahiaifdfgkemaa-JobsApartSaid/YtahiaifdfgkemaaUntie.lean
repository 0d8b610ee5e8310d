/-
  knot.Untie, knot.Next, knot.Tie: their contracts.
-/
import Derived.Test.YtahiaifdfgkemaaSplit
import Derived.Test.YtahiaifdfgkemaaClone
namespace Go.Proofs.Ytahiaifdfgkemaa.Knot

def uerr (p : List UInt8) : Int := if err p ≠ 0 then err p else if rest p = [] then 0 else 4
def utext (p : List UInt8) : List UInt8 := if uerr p = 0 then text p else []

theorem text_length (p : List UInt8) : (text p).length ≤ p.length := by
  unfold text
  split
  · simp; omega
  · simp
theorem rest_length (p : List UInt8) : (rest p).length ≤ p.length := by
  unfold rest
  split
  · simp
  · simp

theorem uerr_knot (t : List UInt8) (h : t.length ≤ 2048) : uerr (knot t) = 0 := by
  have h1 := err_knot t [] h
  have h2 := rest_knot t [] h
  rw [List.append_nil] at h1 h2
  unfold uerr
  rw [h1, h2]; rfl

theorem utext_knot (t : List UInt8) (h : t.length ≤ 2048) : utext (knot t) = t := by
  have h3 := text_knot t [] h
  rw [List.append_nil] at h3
  unfold utext
  rw [uerr_knot t h, if_pos rfl, h3]

theorem uerr_cut (t : List UInt8) (k : Nat) (h : t.length ≤ 2048) (hk : k < t.length + 6) : uerr ((knot t).take k) = 2 := by
  unfold uerr
  rw [err_cut t k h hk]; rfl

end Go.Proofs.Ytahiaifdfgkemaa.Knot
namespace Go.Proofs.Ytahiaifdfgkemaa
open Go.RowKit

theorem below_ahead {B : Nat} {w w' : World} {n : Nat} (h : Below B (w.drewN n) w') : Below B w w' := ⟨h.os, h.tape, h.output, h.size, h.block⟩

end Go.Proofs.Ytahiaifdfgkemaa
