/-
  Layer 6: a block of which bits were turned within 32 is none any more. Plain.
-/
import Derived.Test.YtbagpckiegpalaaAwake6
import Derived.Test.YtbagpckiegpalaaTurn
namespace Go.Proofs.Ytbagpckiegpalaa.Knot

/-- Whatever passes the check leaves the same in the register. -/
theorem residue (p : List UInt8) (m : Nat) (hm : p.length = m + 4) (h : Crc.sum (p.take m) = num (p.drop m) 4) : p.foldl Crc.byte 0xffffffff#32 = Crc.bits 32 0xffffffff#32 := by
  have hp : p = p.take m ++ p.drop m := (List.take_append_drop m p).symm
  rw [hp, List.foldl_append]
  obtain ⟨c, hc⟩ : ∃ c, c = (p.take m).foldl Crc.byte 0xffffffff#32 := ⟨_, rfl⟩
  have hs : ~~~c = num (p.drop m) 4 := by rw [hc]; exact h
  rw [← hc, Crc.fold_bits, show (p.drop m).length = 4 by rw [List.length_drop]; omega]
  have hw := Crc.bits_word 32 c (num (p.drop m) 4)
  have hz : (num (p.drop m) 4) >>> 32 = 0#32 := by
    apply BitVec.eq_of_getLsbD_eq
    intro i hi
    rw [BitVec.getLsbD_ushiftRight, BitVec.getLsbD_of_ge _ _ (by omega)]
    simp
  rw [hz, BitVec.xor_zero] at hw
  have he : Crc.run (Crc.bitAt (p.drop m)) (8 * 4) c = Crc.run (fun i => (num (p.drop m) 4).getLsbD i) 32 c := by
    apply Crc.run_congr
    intro k hk
    rw [num_bit _ _ _ (by omega) (by omega)]
    unfold Crc.bitAt
    simp [show k < 32 by omega]
  rw [he, ← hw, ← hs]
  congr 1
  apply BitVec.eq_of_getLsbD_eq
  intro i hi
  rw [BitVec.getLsbD_xor, BitVec.getLsbD_not, show (4294967295#32) = BitVec.allOnes 32 from rfl, BitVec.getLsbD_allOnes]
  simp [hi]

end Go.Proofs.Ytbagpckiegpalaa.Knot
namespace Go.Proofs.Ytbagpckiegpalaa

theorem said_sum (p : List UInt8) (h : (said p).1 = 0) : Crc.sum (p.take 124) = Knot.num (p.drop 124) 4 := by
  unfold said at h
  by_cases h1 : p = List.replicate 128 0
  · rw [if_pos h1] at h; cases h
  · rw [if_neg h1] at h
    by_cases h2 : Knot.num (p.drop 124) 4 ≠ Crc.sum (p.take 124)
    · rw [if_pos h2] at h; cases h
    · exact (Classical.not_not.1 h2).symm

theorem bytes_sum (B : Blk) (h : B.data.length ≤ 110) : Crc.sum (B.bytes.take 124) = Knot.num (B.bytes.drop 124) 4 := by
  have hf := B.front_length h
  have e1 : B.bytes.take 124 = B.front := by unfold Blk.bytes; exact List.take_left' hf
  have e2 : B.bytes.drop 124 = Knot.le32 (Crc.sum B.front) := by unfold Blk.bytes; exact List.drop_left' hf
  rw [e1, e2, Knot.num_le32]

theorem said_turned (B : Blk) (h : B.data.length ≤ 110) (p : List UInt8) (hl : p.length = 128) (at_ : Nat) (pat : BitVec 32) (h0 : pat.getLsbD 0 = true) (hat : at_ < 1024)
    (hb : ∀ i, i < 8 * 128 → Crc.bitAt p i = (Crc.bitAt B.bytes i ^^ Crc.burst pat at_ i)) : (said p).1 ≠ 0 := by
  intro e
  have h1 := Knot.residue p 124 hl (said_sum p e)
  have h2 := Knot.residue B.bytes 124 (B.bytes_length h) (bytes_sum B h)
  rw [← h2, Crc.fold_bits, Crc.fold_bits, hl, B.bytes_length h] at h1
  exact Crc.burst_found _ _ _ at_ pat _ h0 hat hb h1

end Go.Proofs.Ytbagpckiegpalaa
