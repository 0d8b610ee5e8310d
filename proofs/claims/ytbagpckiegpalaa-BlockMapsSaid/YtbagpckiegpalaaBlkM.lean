/-
  Layer 6: word, setWord: their contracts; the bytes of a sector with a part of them put anew.
-/
import Derived.Test.YtbagpckiegpalaaSum
import Derived.Test.YtbagpckiegpalaaKnotM
import Derived.Test.YtbagpckiegpalaaSlabW
import Derived.Deep.MidRow
import Derived.Lib.VarintMem
namespace Go.Proofs.Ytbagpckiegpalaa
open Go.RowKit
set_option linter.unusedVariables false

theorem blk_shl (x : UInt8) (k : Nat) : (x.toNat : Int) % 4294967296 * 2 ^ (8 * k) % 4294967296 = ((x.toBitVec.setWidth 32 <<< (8 * k)).toNat : Int) := by
  have hx : x.toNat < 256 := x.toNat_lt
  rw [BitVec.toNat_shiftLeft, Nat.shiftLeft_eq, BitVec.toNat_setWidth]
  rw [show (x.toNat : Int) % 4294967296 = (x.toNat : Int) by omega]
  show _ = (((x.toNat % 4294967296) * 2 ^ (8 * k) % 4294967296 : Nat) : Int)
  rw [Nat.mod_eq_of_lt (show x.toNat < 4294967296 by omega)]
  simp

set_option maxHeartbeats 400000 in
theorem word_some (b off cap : Nat) (l : List UInt8) (w : World) (hm : 4 ≤ l.length)
    (hc : ∀ j, j < l.length → w.cell? ⟨b, off + j, none⟩ = some (bv (l.getD j 0))) :
    Calls Try.prog 57 #[.slice (some ⟨b, off, none⟩) l.length cap] w fun e w' => e = .returned (.int .u32 ((Knot.num l 4).toNat : Int)) ∧ w = w' := by
  go_enter Try.func57, Try.ntmps57
  go_wp2
  go_loop [3, 5] (fun s i => ∃ k : Nat, k ≤ 4 ∧ i = .int .i64 k ∧ s = .int .u32 ((Knot.num l k).toNat : Int)) (fun _ i => 4 - (intOf i).toNat)
  case atStart => exact ⟨0, Nat.zero_le _, rfl, rfl⟩
  case round =>
    obtain ⟨k, hk, rfl, rfl⟩ := hrel
    by_cases hlt : k < 4
    · have hcell := hc k (by omega)
      rw [bv_eq] at hcell
      obtain ⟨x, hx⟩ : ∃ x, x = l.getD k 0 := ⟨_, rfl⟩
      rw [← hx] at hcell
      obtain ⟨c, hcd⟩ : ∃ c, c = Knot.num l k := ⟨_, rfl⟩
      rw [← hcd]
      have HX := hid hx
      have HC := hid hcd
      clear hx hcd hc
      have hkl : k < l.length := by omega
      go_wp2
      go_round
      case rel => exact ⟨k + 1, by omega, by go_num, by rw [blk_shl, u32_or_nat _ _ (BitVec.isLt _) (BitVec.isLt _), ← BitVec.toNat_or, HC.out, HX.out]; rfl⟩
      case measure => simp [intOf]; omega
    · obtain rfl : k = 4 := by omega
      go_wp2
      go_ret
      exact ⟨rfl, rfl⟩

theorem word_any (v : Value) (l : List UInt8) (w : World) (h : Rd w v l) (hl : 4 ≤ l.length) :
    Calls Try.prog 57 #[v] w fun e w' => e = .returned (.int .u32 ((Knot.num l 4).toNat : Int)) ∧ w = w' := by
  obtain ⟨b, off, cap, rfl, h1, h2, _, hc⟩ := h.pos (by omega)
  exact word_some b off cap l w hl hc

theorem le32_snoc (S : BitVec 32) (j : Nat) (hj : j < 4) : ((Knot.le32 S).take j).map bv ++ [bv (Knot.byteOf S j)] = ((Knot.le32 S).take (j + 1)).map bv := by
  match j, hj with
  | 0, _ => rfl
  | 1, _ => rfl
  | 2, _ => rfl
  | 3, _ => rfl

theorem le32_len (S : BitVec 32) (j : Nat) (hj : j ≤ 4) : (((Knot.le32 S).take j).map bv).length = j := by
  rw [List.length_map, List.length_take]; unfold Knot.le32; simp; omega

set_option maxHeartbeats 800000 in
theorem setWord_any (b off n cap : Nat) (S : BitVec 32) (w : World) (hm : 4 ≤ n) (hn : n ≤ 1000000)
    (hc : ∀ j, j < 4 → (w.cell? ⟨b, off + j, none⟩).isSome = true) (hf : ∀ j, w.frozen? ⟨b, j, none⟩ = false) :
    Calls Try.prog 55 #[.slice (some ⟨b, off, none⟩) n cap, .int .u32 (S.toNat : Int)] w fun e w' => e = .returned (.tuple #[]) ∧ w' = w.setCells b off ((Knot.le32 S).map bv) := by
  go_enter Try.func55, Try.ntmps55
  go_wp2
  go_loopw [5] (fun i wr => ∃ j : Nat, j ≤ 4 ∧ i = .int .i64 j ∧ wr = w.setCells b off (((Knot.le32 S).take j).map bv)) (fun i _ => 4 - (intOf i).toNat)
  case atStart => exact ⟨0, Nat.zero_le _, rfl, rfl⟩
  case round =>
    obtain ⟨j, hj, rfl, rfl⟩ := hrel
    by_cases hlt : j < 4
    · obtain ⟨wq, hwq⟩ : ∃ wq, wq = w.setCells b off (((Knot.le32 S).take j).map bv) := ⟨_, rfl⟩
      rw [← hwq]
      have hcell : (wq.cell? ⟨b, off + j, none⟩).isSome = true := by rw [hwq]; exact World.isSome_setCells b _ off w _ (hc j hlt)
      obtain ⟨u, hu⟩ := Option.isSome_iff_exists.1 hcell
      have hfz : wq.frozen? ⟨b, off + j, none⟩ = false := by rw [hwq, World.frozen?_setCells]; exact hf _
      have HW := hid hwq
      have HV := hid (Knot.byteOf_val S j)
      have HS := hid (Go.Lib.setCells_snoc_w b (bv (Knot.byteOf S j)) (((Knot.le32 S).take j).map bv) off w)
      have HC := hid hc
      have HF := hid hf
      clear hwq hc hf hcell
      have hjn : j < n := by omega
      go_wp2
      go_roundw
      case rel => exact ⟨j + 1, by omega, by go_num, by rw [HV.out, ← le32_snoc S j hlt, ← HS.out, le32_len S j (by omega), ← HW.out]; rfl⟩
      case measure => simp [intOf]; omega
    · obtain rfl : j = 4 := by omega
      go_wp2
      go_end0
      exact ⟨rfl, rfl⟩

end Go.Proofs.Ytbagpckiegpalaa
