/-
  For InkWrites: a byte turned; calls of a pen that has been spoiled.
-/
import Derived.Test.YtoglhleljknhcaaInkW
import Derived.Test.YtoglhleljknhcaaRefNum
import Derived.Test.YtoglhleljknhcaaTurn
namespace Go.Proofs.Ytoglhleljknhcaa
open Go.RowKit

/-- A byte with its lowest bit turned. -/
def turn1 (x : UInt8) : UInt8 := UInt8.ofNat (x.toNat ^^^ 1)

theorem xor2 (x : UInt8) : Go.bits .xor .u8 (x.toNat : Int) 1 = ((turn1 x).toNat : Int) := by
  have h := u8_xor_nat x.toNat 1 x.toNat_lt (by omega)
  have h2 : x.toNat ^^^ 1 < 2 ^ 8 := Nat.xor_lt_two_pow x.toNat_lt (by omega)
  rw [show ((1 : Int)) = ((1 : Nat) : Int) from rfl, h]
  unfold turn1
  rw [UInt8.toNat_ofNat']
  omega

theorem xor1 (x : UInt8) : Go.bits .xor .u8 (x.toNat : Int) 1 = ((UInt8.ofNat (x.toNat ^^^ 1)).toNat : Int) := by
  have h := u8_xor_nat x.toNat 1 x.toNat_lt (by omega)
  have h2 : x.toNat ^^^ 1 < 2 ^ 8 := Nat.xor_lt_two_pow x.toNat_lt (by omega)
  rw [show ((1 : Int)) = ((1 : Nat) : Int) from rfl, h, UInt8.toNat_ofNat']
  omega

theorem penint_bad' (b base : Nat) (v : Value) (l : List UInt8) (z : Int) (h0 : 0 ≤ z) (hn : z < 9223372036854775808) (w : World) (h : PenAt w base b v l true) :
    Calls Try.prog 24 #[.pointer (some ⟨b, 0, none⟩), .int .i64 z] w fun e w' => e = .returned (.tuple #[]) ∧ w = w' := by
  obtain ⟨n, rfl⟩ := Int.eq_ofNat_of_zero_le h0
  exact penint_bad b base v l n (by omega) w h

theorem u64_pos (n : Int) (h0 : 0 ≤ n) (h1 : n < 9223372036854775808) : n = (u64 n : Int) := by unfold u64; omega

/-- A pen and what is wanted, behind an op. -/
structure Both (w : World) (base bp : Nat) (v vw : Value) (L : List UInt8) (bad : Bool) : Prop where
  pen : PenAt w base bp v L bad
  want : Own w base vw L
  apart : ∀ k, vw.ownBlock = some k → k ≠ bp ∧ v.ownBlock ≠ some k

theorem Both.below {w w' : World} {base bp : Nat} {v vw : Value} {L : List UInt8} {bad : Bool} (h : Both w base bp v vw L bad) (hb : Below w.heap.size w w') : Both w' base bp v vw L bad :=
  ⟨h.pen.below hb, h.want.below hb, h.apart⟩

/-- Behind a pen's call: the want is as it was. -/
theorem Both.wrote {w w' : World} {base bp : Nat} {v v' vw : Value} {L : List UInt8} {bad : Bool} (h : Both w base bp v vw L bad) (hk : Keeps (penS bp v) w w') (hf : ∀ k, v'.ownBlock = some k → v.ownBlock = some k ∨ w.heap.size ≤ k) :
    Own w' base vw L ∧ ∀ k, vw.ownBlock = some k → k ≠ bp ∧ v'.ownBlock ≠ some k := by
  refine ⟨h.want.keeps hk (fun k hk' hs => ?_), fun k hk' => ⟨(h.apart k hk').1, fun e => ?_⟩⟩
  · rcases hs with hs | hs
    · exact (h.apart k hk').1 hs
    · exact (h.apart k hk').2 hs
  · rcases hf k e with h' | h'
    · exact (h.apart k hk').2 h'
    · have := (h.want.lt k hk').2; omega

/-- Behind an append to what is wanted. -/
theorem PenAt.beside {w w' : World} {base bp : Nat} {v vw : Value} {L : List UInt8} {bad : Bool} (h : PenAt w base bp v L bad) (ha : ∀ k, vw.ownBlock = some k → k ≠ bp ∧ v.ownBlock ≠ some k) (hg : w.grownBy w' vw.ownBlock) : PenAt w' base bp v L bad :=
  h.keeps (Keeps.of_grown hg) (fun k hk hs => by
    rcases hk with rfl | hk
    · exact (ha k hs).1 rfl
    · exact (ha k hs).2 hk)

theorem apart_new {w : World} {base bp : Nat} {v vw vw' : Value} {L : List UInt8} {bad : Bool} (h : PenAt w base bp v L bad) (ha : ∀ k, vw.ownBlock = some k → k ≠ bp ∧ v.ownBlock ≠ some k) (hq : ∀ q, vw'.ownBlock = some q → vw.ownBlock = some q ∨ w.heap.size ≤ q) :
    ∀ k, vw'.ownBlock = some k → k ≠ bp ∧ v.ownBlock ≠ some k := by
  intro k hk
  rcases hq k hk with h' | h'
  · exact ha k h'
  · refine ⟨by have := h.lt; omega, fun e => ?_⟩
    have := (h.2.1.lt k e).2
    omega

end Go.Proofs.Ytoglhleljknhcaa
