/-
  knot.Sum: the walk.
-/
import Derived.Test.YtbagpckiegpalaaKit
import Derived.Test.YtbagpckiegpalaaCrc
namespace Go.Proofs.Ytbagpckiegpalaa
open Go.RowKit

theorem xor_word (c : BitVec 32) (b : UInt8) : Go.bits .xor .u32 (c.toNat : Int) ((b.toNat : Int) % 4294967296) = ((c ^^^ b.toBitVec.setWidth 32).toNat : Int) := by
  have hb : b.toNat < 256 := b.toNat_lt
  rw [show ((b.toNat : Int) % 4294967296) = (b.toNat : Int) by omega, u32_xor_nat _ _ c.isLt (by omega), BitVec.toNat_xor]
  simp [Nat.mod_eq_of_lt (show b.toNat < 4294967296 by omega)]

theorem bit_word32 (d : BitVec 32) : Go.bits .xor .u32 ((d.toNat : Int) / 2) (Go.bits .and .u32 2197175160 (-Go.bits .and .u32 (d.toNat : Int) 1 % 4294967296)) = ((Crc.bit d).toNat : Int) := by
  have hd := d.isLt
  have h1 : Go.bits .and .u32 (d.toNat : Int) 1 = (((d &&& 1#32).toNat : Nat) : Int) := by
    have := u32_and_nat d.toNat 1 hd (by omega)
    rw [BitVec.toNat_and]
    exact this
  have h2 : (-(((d &&& 1#32).toNat : Nat) : Int)) % 4294967296 = (((0#32 - (d &&& 1#32)).toNat : Nat) : Int) := by
    have hs := (d &&& 1#32).isLt
    rw [BitVec.toNat_sub]
    simp only [BitVec.toNat_ofNat]
    omega
  rw [h1, h2]
  have h3 : Go.bits .and .u32 2197175160 (((0#32 - (d &&& 1#32)).toNat : Nat) : Int) = (((Crc.poly &&& (0#32 - (d &&& 1#32))).toNat : Nat) : Int) := by
    have := u32_and_nat 2197175160 (0#32 - (d &&& 1#32)).toNat (by omega) (BitVec.isLt _)
    rw [BitVec.toNat_and]
    exact this
  have h4 : (d.toNat : Int) / (2 : Int) = (((d >>> 1).toNat : Nat) : Int) := by
    rw [BitVec.toNat_ushiftRight, Nat.shiftRight_eq_div_pow]
    omega
  rw [h3, h4, u32_xor_nat _ _ (BitVec.isLt _) (BitVec.isLt _), ← BitVec.toNat_xor]
  rfl

theorem not_word (c : BitVec 32) : Go.bits .xor .u32 IntKind.u32.max (c.toNat : Int) = ((~~~c).toNat : Int) := by
  have := u32_xor_nat 4294967295 c.toNat (by omega) c.isLt
  rw [show (~~~c) = 4294967295#32 ^^^ c by
    apply BitVec.eq_of_getLsbD_eq
    intro i hi
    rw [BitVec.getLsbD_xor, BitVec.getLsbD_not, show (4294967295#32) = BitVec.allOnes 32 from rfl, BitVec.getLsbD_allOnes]
    simp [hi], BitVec.toNat_xor]
  exact this

theorem fold_take (l : List UInt8) (k : Nat) (h : k < l.length) (c : BitVec 32) : (l.take (k + 1)).foldl Crc.byte c = Crc.byte ((l.take k).foldl Crc.byte c) (l.getD k 0) := by
  rw [List.take_succ_eq_append_getElem h, List.foldl_append]
  simp [List.getElem?_eq_getElem h]

set_option maxHeartbeats 400000 in
theorem sum_some (b off cap : Nat) (l : List UInt8) (w : World) (hm : l.length ≤ maxLen)
    (hc : ∀ j, j < l.length → w.cell? ⟨b, off + j, none⟩ = some (bv (l.getD j 0))) :
    Calls Try.prog 56 #[.slice (some ⟨b, off, none⟩) l.length cap] w fun e w' => e = .returned (.int .u32 ((Crc.sum l).toNat : Int)) ∧ w = w' := by
  unfold maxLen at hm
  go_enter Try.func56, Try.ntmps56
  go_wp2
  go_loop [3, 9] (fun s i => ∃ k : Nat, k ≤ l.length ∧ i = .int .i64 k ∧ s = .int .u32 (((l.take k).foldl Crc.byte 0xffffffff#32).toNat : Int)) (fun _ i => l.length - (intOf i).toNat)
  case atStart => exact ⟨0, Nat.zero_le _, rfl, rfl⟩
  case round =>
    obtain ⟨k, hk, rfl, rfl⟩ := hrel
    by_cases hlt : k < l.length
    · have hcell := hc k hlt
      rw [bv_eq] at hcell
      obtain ⟨x, hx⟩ : ∃ x, x = l.getD k 0 := ⟨_, rfl⟩
      rw [← hx] at hcell
      obtain ⟨c, hcd⟩ : ∃ c, c = (l.take k).foldl Crc.byte 0xffffffff#32 := ⟨_, rfl⟩
      rw [← hcd]
      have HX := hid hx
      have HC := hid hcd
      clear hx hcd hc
      go_wp2
      go_loop [3, 17] (fun s i => ∃ j : Nat, j ≤ 8 ∧ i = .int .i64 j ∧ s = .int .u32 ((Crc.bits j (c ^^^ x.toBitVec.setWidth 32)).toNat : Int)) (fun _ i => 8 - (intOf i).toNat)
      case atStart => exact ⟨0, Nat.zero_le _, rfl, by rw [xor_word]; rfl⟩
      case round =>
        obtain ⟨j, hj, rfl, rfl⟩ := hrel
        by_cases hj8 : j < 8
        · obtain ⟨d, hd⟩ : ∃ d, d = Crc.bits j (c ^^^ x.toBitVec.setWidth 32) := ⟨_, rfl⟩
          rw [← hd]
          have HD := hid hd
          clear hd
          go_wp2
          go_round
          case rel => exact ⟨j + 1, by omega, by go_num, by rw [bit_word32, Crc.bits_succ, ← HD.out]⟩
          case measure => simp [intOf]; omega
        · obtain rfl : j = 8 := by omega
          go_wp2
          go_round
          case rel => exact ⟨k + 1, by omega, by go_num, by rw [fold_take l k hlt, ← HX.out, ← HC.out]; rfl⟩
          case measure => simp [intOf]; omega
    · obtain rfl : k = l.length := by omega
      go_wp2
      go_ret
      exact ⟨ret_int (not_word _), rfl⟩

theorem nil_word : Go.bits .xor .u32 IntKind.u32.max 4294967295 = ((Crc.sum []).toNat : Int) := by decide

set_option maxHeartbeats 400000 in
theorem sum_none (a : Option Addr) (cap : Nat) (w : World) :
    Calls Try.prog 56 #[.slice a 0 cap] w fun e w' => e = .returned (.int .u32 ((Crc.sum []).toNat : Int)) ∧ w = w' := by
  go_enter Try.func56, Try.ntmps56
  go_wp2
  refine wp_loop_rounds 1 ?_
  rw [rounds_succ]
  go_wp2
  go_ret
  exact ⟨ret_int nil_word, rfl⟩

/-- THE CONTRACT of knot.Sum. -/
theorem sum_any (v : Value) (l : List UInt8) (w : World) (h : Rd w v l) :
    Calls Try.prog 56 #[v] w fun e w' => e = .returned (.int .u32 ((Crc.sum l).toNat : Int)) ∧ w = w' := by
  by_cases hl : 0 < l.length
  · obtain ⟨b, off, cap, rfl, h1, h2, _, hc⟩ := h.pos hl
    exact sum_some b off cap l w (by omega) hc
  · have : l = [] := List.eq_nil_of_length_eq_zero (by omega)
    subst this
    obtain ⟨a, cap, rfl, _⟩ := h
    exact sum_none a cap w

end Go.Proofs.Ytbagpckiegpalaa
