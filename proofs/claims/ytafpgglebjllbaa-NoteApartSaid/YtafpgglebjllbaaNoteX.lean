/-
  The writers, the code's: contracts.
-/
import Derived.Test.YtafpgglebjllbaaNoteRN
import Derived.Test.YtafpgglebjllbaaNoteW
import Derived.Test.YtafpgglebjllbaaNoteP
namespace Go.Proofs.Ytafpgglebjllbaa.Note
open Ink (num)

theorem num_le (n k : Nat) (h : n < 128 ^ (k + 1)) : (num n).length ≤ k + 1 := Ink.numF_len 9 n k h

theorem N.enc_length (x : N) (h : x.right = true) : x.enc.length ≤ 2048 := by
  obtain ⟨_, _, _, _, _, hb⟩ := N.right_of x h
  have h1 := nums_length (1 :: x.ns)
  have h2 := (Ink.num_length x.b.length).1
  have h3 : (1 :: x.ns).length = 13 := rfl
  unfold N.enc Note.enc tail Ink.text
  rw [List.length_append, List.length_append]
  omega

theorem Q.enc_length (x : Q) : x.enc.length ≤ 2048 := by
  have h1 := nums_length (2 :: x.ns)
  have h3 : (2 :: x.ns).length = 8 := rfl
  unfold Q.enc Note.enc tail
  rw [List.append_nil]
  omega

theorem R.enc_length (x : R) : x.enc.length ≤ 2048 := by
  have h1 := nums_length (3 :: x.ns)
  have h3 : (3 :: x.ns).length = 7 := rfl
  unfold R.enc Note.enc tail
  rw [List.append_nil]
  omega

theorem P.enc_length (x : P) (hw : x.wf) (h : x.right = true) : x.enc.length ≤ 2048 := by
  obtain ⟨hn, hb⟩ := P.right_of x h
  obtain ⟨_, he, hl, hs, ha⟩ := hw
  have h0 := num_le 4 0 (by omega)
  have h1 := num_le x.n 0 (by omega)
  have h2 := num_le x.e 4 (by omega)
  have h3 := num_le x.l 4 (by omega)
  have h4 := num_le x.s 4 (by omega)
  have h5 := num_le x.a 4 (by omega)
  have h6 := num_le (if x.p then 1 else 0) 0 (by split <;> omega)
  have h7 := num_le x.b.length 1 (by omega)
  unfold P.enc Note.enc tail Ink.text P.ns nums
  simp only [List.flatMap_cons, List.flatMap_nil, List.length_append, List.length_nil]
  omega

end Go.Proofs.Ytafpgglebjllbaa.Note
namespace Go.Proofs.Ytafpgglebjllbaa
open Go.RowKit

theorem Wrote.pen {w w' : World} {base b : Nat} {v : Value} {l m : List UInt8} (h : Wrote w base b v l m w') : ∃ v', PenAt w' base b v' (l ++ m) false ∧ Keeps (penS b v) w w' ∧ (∀ k, v'.ownBlock = some k → v.ownBlock = some k ∨ w.heap.size ≤ k) := h

set_option maxRecDepth 100000 in
set_option maxHeartbeats 2000000 in
theorem note_no (x : Note.N) (ad : Option Addr) (cp L : Nat) (hL : L = x.b.length) (hx : x.wf) (w : World) (hr : x.right = false) :
    Calls Try.prog 10 #[.agg #[.int .u8 (x.k : Int), .int .u8 (x.n : Int), .int .u32 (x.e : Int), .int .u32 (x.l : Int), .int .u32 (x.t : Int), .int .u32 (x.g : Int), .int .u32 (x.j : Int), .int .u32 (x.v : Int), .int .u8 (x.r : Int), .int .i64 x.c, .int .u32 (x.f : Int), .int .u32 (x.o : Int), .slice ad L cp]] w fun e w' => e = .returned (.tuple #[.slice none 0 0, .int .i64 4]) ∧ Below w.heap.size w w' := by
  have HR := hid hr
  have HX := hid hx
  have HRT := hid (fun w => rightnote_any x ad cp w HX.out)
  rw [← hL] at HRT
  clear hr hx hL
  go_enter Try.func10, Try.ntmps10
  go_wp2_with fail
  refine (HRT.out _).mono ?_
  rintro e w1 ⟨rfl, hb1⟩
  rw [HR.out]
  go_wp2
  go_ret2
  exact ⟨rfl, ((Below.refl _ _).alloc (Nat.le_refl _) _).trans (hb1.mono (by simp))⟩

set_option maxRecDepth 100000 in
set_option maxHeartbeats 2000000 in
theorem packet_no (x : Note.P) (ad : Option Addr) (cp L : Nat) (hL : L = x.b.length) (w : World) (hr : x.right = false) :
    Calls Try.prog 15 #[.agg #[.int .u8 (x.n : Int), .int .u32 (x.e : Int), .int .u32 (x.l : Int), .int .u32 (x.s : Int), .int .u32 (x.a : Int), .bool x.p, .slice ad L cp]] w fun e w' => e = .returned (.tuple #[.slice none 0 0, .int .i64 4]) ∧ Below w.heap.size w w' := by
  have HR := hid hr
  have HRT := hid (fun w => rightpacket_any x ad cp w)
  rw [← hL] at HRT
  clear hr hL
  go_enter Try.func15, Try.ntmps15
  go_wp2_with fail
  refine (HRT.out _).mono ?_
  rintro e w1 ⟨rfl, hb1⟩
  rw [HR.out]
  go_wp2
  go_ret2
  exact ⟨rfl, ((Below.refl _ _).alloc (Nat.le_refl _) _).trans (hb1.mono (by simp))⟩

end Go.Proofs.Ytafpgglebjllbaa
