/-
  EVERY BURST IS FOUND, in plain words: bytes that are a knot but for a burst of at most 32 bits are none.
-/
import Derived.Test.YtahiaifdfgkemaaUntie
namespace Go.Proofs.Ytahiaifdfgkemaa.Knot

/-- Whatever passes the check leaves the same in the register. -/
theorem residue (p : List UInt8) (m : Nat) (hm : p.length = m + 4) (h : Crc.sum (p.take m) = num (p.drop m) 4) : p.foldl Crc.byte 0xffffffff#32 = Crc.bits 32 0xffffffff#32 := by
  have hp : p = p.take m ++ p.drop m := (List.take_append_drop m p).symm
  rw [hp, List.foldl_append]
  obtain ⟨c, hc⟩ : ∃ c, c = (p.take m).foldl Crc.byte 0xffffffff#32 := ⟨_, rfl⟩
  have hs : ~~~c = num (p.drop m) 4 := by rw [hc]; exact h
  rw [← hc, Crc.fold_bits, show (p.drop m).length = 4 by rw [List.length_drop]; omega]
  have hw := Crc.bits_word 32 c (num (p.drop m) 4)
  have hz : (num (p.drop m) 4) >>> 32 = 0#32 := by
    apply BitVec.eq_of_getLsbD_eq
    intro i hi
    rw [BitVec.getLsbD_ushiftRight, BitVec.getLsbD_of_ge _ _ (by omega)]
    simp
  rw [hz, BitVec.xor_zero] at hw
  have he : Crc.run (Crc.bitAt (p.drop m)) (8 * 4) c = Crc.run (fun i => (num (p.drop m) 4).getLsbD i) 32 c := by
    apply Crc.run_congr
    intro k hk
    rw [num_bit _ _ _ (by omega) (by omega)]
    unfold Crc.bitAt
    simp [show k < 32 by omega]
  rw [he, ← hw, ← hs]
  congr 1
  apply BitVec.eq_of_getLsbD_eq
  intro i hi
  rw [BitVec.getLsbD_xor, BitVec.getLsbD_not, show (4294967295#32) = BitVec.allOnes 32 from rfl, BitVec.getLsbD_allOnes]
  simp [hi]

theorem whole (p : List UInt8) (h : uerr p = 0) : p.foldl Crc.byte 0xffffffff#32 = Crc.bits 32 0xffffffff#32 := by
  have he : err p = 0 := by
    unfold uerr at h
    by_cases c : err p = 0
    · exact c
    · rw [if_pos c] at h; exact h
  have hr : rest p = [] := by
    unfold uerr at h
    rw [if_neg (by simpa using he)] at h
    by_cases c : rest p = []
    · exact c
    · rw [if_neg c] at h; cases h
  unfold rest at hr
  rw [if_pos he] at hr
  unfold err at he
  by_cases c0 : p.length < 2
  · rw [if_pos c0] at he; cases he
  · rw [if_neg c0] at he
    by_cases c1 : 2048 < size p
    · rw [if_pos c1] at he; cases he
    · rw [if_neg c1] at he
      by_cases c2 : p.length < size p + 6
      · rw [if_pos c2] at he; cases he
      · rw [if_neg c2] at he
        by_cases c3 : Crc.sum (p.take (size p + 2)) = num (p.drop (size p + 2)) 4
        · refine residue p (size p + 2) ?_ c3
          have := List.drop_eq_nil_iff.1 hr
          omega
        · rw [if_pos c3] at he; cases he

theorem uerr_burst (t k : List UInt8) (ht : t.length ≤ 2048) (hl : k.length = (knot t).length) (at_ : Nat) (pat : BitVec 32) (h0 : pat.getLsbD 0 = true) (hat : at_ < 8 * (knot t).length)
    (h : ∀ i, i < 8 * (knot t).length → Crc.bitAt k i = (Crc.bitAt (knot t) i ^^ Crc.burst pat at_ i)) : uerr k ≠ 0 := by
  intro e
  have h1 := whole k e
  have h2 := whole (knot t) (uerr_knot t ht)
  rw [← h2, Crc.fold_bits, Crc.fold_bits, hl] at h1
  exact Crc.burst_found _ _ _ at_ pat _ h0 hat h h1

end Go.Proofs.Ytahiaifdfgkemaa.Knot
