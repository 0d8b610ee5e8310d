/-
  quadrillelaw02.awake; quadrilleref02.Turn: their contracts.
-/
import Derived.Test.YtbagpckiegpalaaSum
namespace Go.Proofs.Ytbagpckiegpalaa
open Go.RowKit

def nines : List UInt8 := [49, 50, 51, 52, 53, 54, 55, 56, 57]
theorem sum_nines : Crc.sum nines = 3808858755#32 := by decide +kernel

/-- What n rounds have made of l. -/
def Turned (l l' : List UInt8) (pat : BitVec 32) (at_ n : Nat) : Prop :=
  l'.length = l.length ∧ ∀ k, k < 8 * l.length → Crc.bitAt l' k = (Crc.bitAt l k ^^ (decide (k < at_ + n) && Crc.burst pat at_ k))

theorem Turned.zero (l : List UInt8) (pat : BitVec 32) (at_ : Nat) : Turned l l pat at_ 0 := by
  refine ⟨rfl, fun k hk => ?_⟩
  unfold Crc.burst
  by_cases h : at_ ≤ k
  · simp [show ¬ k < at_ by omega]
  · simp [h]

def flip (x : UInt8) (r : Nat) : UInt8 := ⟨x.toBitVec ^^^ (1#8 <<< r)⟩

theorem flip_val (x : UInt8) (r : Nat) (hr : r < 8) : Go.bits .xor .u8 (x.toNat : Int) (2 ^ r % 256) = ((flip x r).toNat : Int) := by
  have h2 : (2 : Int) ^ r % 256 = (((1#8 <<< r).toNat : Nat) : Int) := by
    have : ∀ i : Fin 8, (2 : Int) ^ i.val % 256 = (((1#8 <<< i.val).toNat : Nat) : Int) := by decide
    exact this ⟨r, hr⟩
  rw [h2, u8_xor_nat _ _ x.toNat_lt (BitVec.isLt _)]
  rfl

theorem flip_bit (x : UInt8) (r i : Nat) (hr : r < 8) (hi : i < 8) : (flip x r).toBitVec.getLsbD i = (x.toBitVec.getLsbD i ^^ decide (i = r)) := by
  have h : (1#8 <<< r).getLsbD i = decide (i = r) := by
    have : ∀ (a b : Fin 8), (1#8 <<< a.val).getLsbD b.val = decide (b.val = a.val) := by decide
    exact this ⟨r, hr⟩ ⟨i, hi⟩
  show (x.toBitVec ^^^ (1#8 <<< r)).getLsbD i = _
  rw [BitVec.getLsbD_xor, h]

theorem bitAt_set (l : List UInt8) (m k : Nat) (hm : m / 8 < l.length) :
    Crc.bitAt (l.set (m / 8) (flip (l.getD (m / 8) 0) (m % 8))) k = (Crc.bitAt l k ^^ decide (k = m)) := by
  unfold Crc.bitAt
  by_cases h : k / 8 = m / 8
  · have hd : decide (k = m) = decide (k % 8 = m % 8) := by
      by_cases e : k = m
      · simp [e]
      · have : ¬ k % 8 = m % 8 := by omega
        simp [e, this]
    rw [h, hd, ← flip_bit _ _ _ (by omega) (by omega)]
    congr 2
    simp [hm]
  · have hne : ¬ k = m := fun e => h (by rw [e])
    have : (l.set (m / 8) (flip (l.getD (m / 8) 0) (m % 8))).getD (k / 8) 0 = l.getD (k / 8) 0 := by
      simp only [List.getD_eq_getElem?_getD]
      rw [List.getElem?_set_ne (fun e => h e.symm)]
    rw [this]
    simp [hne]

theorem Turned.skip {l l' : List UInt8} {pat : BitVec 32} {at_ n : Nat} (h : Turned l l' pat at_ n) (hn : ¬ (pat.getLsbD n = true ∧ at_ + n < 8 * l.length)) : Turned l l' pat at_ (n + 1) := by
  refine ⟨h.1, fun k hk => ?_⟩
  rw [h.2 k hk]
  congr 1
  by_cases e : k = at_ + n
  · subst e
    have hb : Crc.burst pat at_ (at_ + n) = pat.getLsbD n := by unfold Crc.burst; simp
    have : pat.getLsbD n = false := by
      cases hp : pat.getLsbD n
      · rfl
      · exact absurd ⟨hp, hk⟩ hn
    rw [hb, this]; simp
  · have : decide (k < at_ + (n + 1)) = decide (k < at_ + n) := by
      by_cases h : k < at_ + n
      · simp [h]; omega
      · simp [h]; omega
    rw [this]

theorem Turned.step {l l' : List UInt8} {pat : BitVec 32} {at_ n : Nat} (h : Turned l l' pat at_ n) (hp : pat.getLsbD n = true) (hlt : at_ + n < 8 * l.length) :
    Turned l (l'.set ((at_ + n) / 8) (flip (l'.getD ((at_ + n) / 8) 0) ((at_ + n) % 8))) pat at_ (n + 1) := by
  refine ⟨by rw [List.length_set]; exact h.1, fun k hk => ?_⟩
  rw [bitAt_set _ _ _ (by rw [h.1]; omega), h.2 k hk]
  by_cases e : k = at_ + n
  · subst e
    have hb : Crc.burst pat at_ (at_ + n) = pat.getLsbD n := by unfold Crc.burst; simp
    rw [hb, hp]; simp
  · have : decide (k < at_ + (n + 1)) = decide (k < at_ + n) := by
      by_cases h : k < at_ + n
      · simp [h]; omega
      · simp [h]; omega
    rw [this]
    simp [e]

theorem shr_odd (pat : BitVec 32) (n q : Nat) (hq : q = (pat >>> n).toNat) : pat.getLsbD n = decide (q % 2 = 1) := by
  have : (pat >>> n).getLsbD 0 = pat.getLsbD n := by rw [BitVec.getLsbD_ushiftRight]; simp
  rw [← this, hq]
  simp [BitVec.getLsbD, Nat.testBit_zero]

theorem shr_next (pat : BitVec 32) (n q : Nat) (hq : q = (pat >>> n).toNat) : (q : Int) / 2 = ((pat >>> (n + 1)).toNat : Int) := by
  have : (pat >>> (n + 1)).toNat = q / 2 := by
    rw [hq, BitVec.toNat_ushiftRight, BitVec.toNat_ushiftRight, Nat.shiftRight_succ]
  rw [this]; omega

end Go.Proofs.Ytbagpckiegpalaa
