/-
  The writers, the code's: contracts.
-/
import Derived.Test.YtahiaifdfgkemaaNoteRN
import Derived.Test.YtahiaifdfgkemaaNoteW
import Derived.Test.YtahiaifdfgkemaaNoteP
namespace Go.Proofs.Ytahiaifdfgkemaa.Note
open Ink (num)

theorem num_le (n k : Nat) (h : n < 128 ^ (k + 1)) : (num n).length ≤ k + 1 := Ink.numF_len 9 n k h

theorem N.enc_length (x : N) (h : x.right = true) : x.enc.length ≤ 2048 := by
  obtain ⟨_, _, _, _, _, hb⟩ := N.right_of x h
  have h1 := nums_length (1 :: x.ns)
  have h2 := (Ink.num_length x.b.length).1
  have h3 : (1 :: x.ns).length = 13 := rfl
  unfold N.enc Note.enc tail Ink.text
  rw [List.length_append, List.length_append]
  omega

theorem Q.enc_length (x : Q) : x.enc.length ≤ 2048 := by
  have h1 := nums_length (2 :: x.ns)
  have h3 : (2 :: x.ns).length = 8 := rfl
  unfold Q.enc Note.enc tail
  rw [List.append_nil]
  omega

theorem R.enc_length (x : R) : x.enc.length ≤ 2048 := by
  have h1 := nums_length (3 :: x.ns)
  have h3 : (3 :: x.ns).length = 7 := rfl
  unfold R.enc Note.enc tail
  rw [List.append_nil]
  omega

theorem P.enc_length (x : P) (hw : x.wf) (h : x.right = true) : x.enc.length ≤ 2048 := by
  obtain ⟨hn, hb⟩ := P.right_of x h
  obtain ⟨_, he, hl, hs, ha⟩ := hw
  have h0 := num_le 4 0 (by omega)
  have h1 := num_le x.n 0 (by omega)
  have h2 := num_le x.e 4 (by omega)
  have h3 := num_le x.l 4 (by omega)
  have h4 := num_le x.s 4 (by omega)
  have h5 := num_le x.a 4 (by omega)
  have h6 := num_le (if x.p then 1 else 0) 0 (by split <;> omega)
  have h7 := num_le x.b.length 1 (by omega)
  unfold P.enc Note.enc tail Ink.text P.ns nums
  simp only [List.flatMap_cons, List.flatMap_nil, List.length_append, List.length_nil]
  omega

end Go.Proofs.Ytahiaifdfgkemaa.Note
namespace Go.Proofs.Ytahiaifdfgkemaa
open Go.RowKit

theorem Wrote.pen {w w' : World} {base b : Nat} {v : Value} {l m : List UInt8} (h : Wrote w base b v l m w') : ∃ v', PenAt w' base b v' (l ++ m) false ∧ Keeps (penS b v) w w' ∧ (∀ k, v'.ownBlock = some k → v.ownBlock = some k ∨ w.heap.size ≤ k) := h

set_option maxRecDepth 100000 in
set_option maxHeartbeats 2000000 in
theorem request_no (x : Note.Q) (w : World) (hr : x.right = false) :
    Calls Try.prog 34 #[.agg #[.int .u8 (x.cl : Int), .int .u32 (x.s : Int), .int .u8 (x.k : Int), .int .u8 (x.t : Int), .int .i64 x.kk, .int .i64 x.w, .int .u32 (x.j : Int)]] w fun e w' => e = .returned (.tuple #[.slice none 0 0, .int .i64 4]) ∧ Below w.heap.size w w' := by
  have HR := hid hr
  clear hr
  go_enter Try.func34, Try.ntmps34
  go_wp2_with fail
  refine (rightrequest_any x _).mono ?_
  rintro e w1 ⟨rfl, hb1⟩
  rw [HR.out]
  go_wp2
  go_ret2
  exact ⟨rfl, ((Below.refl _ _).alloc (Nat.le_refl _) _).trans (hb1.mono (by simp))⟩

end Go.Proofs.Ytahiaifdfgkemaa
