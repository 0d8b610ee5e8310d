/-
  knot.number, knot.split: their contracts.
-/
import Derived.Test.YtafpgglebjllbaaSum
import Derived.Test.YtafpgglebjllbaaKnotM
import Derived.Deep.QuietTactic
import Derived.BigQuiet
namespace Go.Proofs.Ytafpgglebjllbaa
open Go.RowKit

theorem shl_word (x : UInt8) (k : Nat) : (x.toNat : Int) % 4294967296 * 2 ^ (8 * k) % 4294967296 = ((x.toBitVec.setWidth 32 <<< (8 * k)).toNat : Int) := by
  have hx : x.toNat < 256 := x.toNat_lt
  rw [BitVec.toNat_shiftLeft, Nat.shiftLeft_eq, BitVec.toNat_setWidth]
  rw [show (x.toNat : Int) % 4294967296 = (x.toNat : Int) by omega]
  show _ = (((x.toNat % 4294967296) * 2 ^ (8 * k) % 4294967296 : Nat) : Int)
  rw [Nat.mod_eq_of_lt (show x.toNat < 4294967296 by omega)]
  simp

set_option maxHeartbeats 400000 in
theorem number_some (b off cap : Nat) (l : List UInt8) (w : World) (hm : 4 ≤ l.length)
    (hc : ∀ j, j < l.length → w.cell? ⟨b, off + j, none⟩ = some (bv (l.getD j 0))) :
    Calls Try.prog 82 #[.slice (some ⟨b, off, none⟩) l.length cap] w fun e w' => e = .returned (.int .u32 ((Knot.num l 4).toNat : Int)) ∧ w = w' := by
  go_enter Try.func82, Try.ntmps82
  go_wp2
  go_loop [3, 5] (fun s i => ∃ k : Nat, k ≤ 4 ∧ i = .int .i64 k ∧ s = .int .u32 ((Knot.num l k).toNat : Int)) (fun _ i => 4 - (intOf i).toNat)
  case atStart => exact ⟨0, Nat.zero_le _, rfl, rfl⟩
  case round =>
    obtain ⟨k, hk, rfl, rfl⟩ := hrel
    by_cases hlt : k < 4
    · have hcell := hc k (by omega)
      rw [bv_eq] at hcell
      obtain ⟨x, hx⟩ : ∃ x, x = l.getD k 0 := ⟨_, rfl⟩
      rw [← hx] at hcell
      obtain ⟨c, hcd⟩ : ∃ c, c = Knot.num l k := ⟨_, rfl⟩
      rw [← hcd]
      have HX := hid hx
      have HC := hid hcd
      clear hx hcd hc
      have hkl : k < l.length := by omega
      go_wp2
      go_round
      case rel => exact ⟨k + 1, by omega, by go_num, by rw [shl_word, u32_or_nat _ _ (BitVec.isLt _) (BitVec.isLt _), ← BitVec.toNat_or, HC.out, HX.out]; rfl⟩
      case measure => simp [intOf]; omega
    · obtain rfl : k = 4 := by omega
      go_wp2
      go_ret
      exact ⟨rfl, rfl⟩

theorem i64_or_nat (a b : Nat) (ha : a < 256) (hb : b < 65536) : Go.bits .or .i64 (a : Int) (b : Int) = ((a ||| b : Nat) : Int) := by
  show IntKind.i64.wrap ((BitVec.ofInt 64 (a : Int) ||| BitVec.ofInt 64 (b : Int)).toNat : Int) = _
  rw [BitVec.toNat_or, ofInt_u64 a (by omega), ofInt_u64 b (by omega)]
  have : a ||| b < 2 ^ 16 := Nat.or_lt_two_pow (by omega) (by omega)
  rw [IntKind.wrap_i64]
  omega

theorem size_val (x0 x1 : UInt8) : Go.bits .or .i64 (wrap64 (x0.toNat : Int)) (wrap64 (wrap64 (x1.toNat : Int) * 256)) = ((x0.toNat + 256 * x1.toNat : Nat) : Int) := by
  have h0 : x0.toNat < 256 := x0.toNat_lt
  have h1 : x1.toNat < 256 := x1.toNat_lt
  rw [IntWalk.wrap64_in _ ⟨by omega, by omega⟩, IntWalk.wrap64_in (x1.toNat : Int) ⟨by omega, by omega⟩, IntWalk.wrap64_in _ ⟨by omega, by omega⟩]
  rw [show (x1.toNat : Int) * 256 = ((256 * x1.toNat : Nat) : Int) by omega, i64_or_nat _ _ (by omega) (by omega), Nat.or_comm]
  congr 1
  rw [nat_join 8 (256 * x1.toNat) x0.toNat (by omega) (by omega)]
  omega

theorem number_any (v : Value) (l : List UInt8) (w : World) (h : Rd w v l) (hl : 4 ≤ l.length) :
    Calls Try.prog 82 #[v] w fun e w' => e = .returned (.int .u32 ((Knot.num l 4).toNat : Int)) ∧ w = w' := by
  obtain ⟨b, off, cap, rfl, h1, h2, _, hc⟩ := h.pos (by omega)
  exact number_some b off cap l w hl hc

/-- A call that leaves the world alone, inside a region that draws, behind another one. -/
theorem quiet_from {P : Program} {f : FuncId} {args : Array Value} {w : World} {a n : Nat} {v : Value} (h : Calls P f args (w.drewN (a + n)) fun e w' => e = .returned v ∧ w.drewN (a + n) = w') :
    Calls P f args (w.drewN (a + n)) fun e w' => e = .returned v ∧ ∃ m, w' = w.drewN (a + m) :=
  h.mono fun _ _ h => ⟨h.1, n, h.2.symm⟩

theorem Rd.drewN {w : World} {v : Value} {l : List UInt8} (h : Rd w v l) (n : Nat) : Rd (w.drewN n) v l := h

set_option maxHeartbeats 800000 in
theorem split_some (b off cap : Nat) (l : List UInt8) (w : World) (h2 : 2 ≤ l.length) (hcap : l.length ≤ cap) (hcm : cap ≤ 9223372036854775807)
    (hc : ∀ j, j < l.length → w.cell? ⟨b, off + j, none⟩ = some (bv (l.getD j 0))) :
    Calls Try.prog 79 #[.slice (some ⟨b, off, none⟩) l.length cap] w fun e w' => ∃ tv rv n, e = .returned (.tuple #[tv, rv, .int .i64 (Knot.err l)]) ∧ Rd w tv (Knot.text l) ∧ Rd w rv (Knot.rest l) ∧ w' = w.drewN n := by
  have h0c := hc 0 (by omega)
  have h1c := hc 1 (by omega)
  obtain ⟨x0, hx0⟩ : ∃ x, x = l.getD 0 0 := ⟨_, rfl⟩
  obtain ⟨x1, hx1⟩ : ∃ x, x = l.getD 1 0 := ⟨_, rfl⟩
  rw [bv_eq, ← hx0, Nat.add_zero] at h0c
  rw [bv_eq, ← hx1] at h1c
  have HX0 := hid hx0
  have HX1 := hid hx1
  have HC := hid hc
  have hE := size_val x0 x1
  obtain ⟨s, hs⟩ : ∃ s, s = x0.toNat + 256 * x1.toNat := ⟨_, rfl⟩
  have hs2 : s = Knot.size l := by rw [hs, hx0, hx1]; rfl
  have hsb : s < 65536 := by have := x0.toNat_lt; have := x1.toNat_lt; omega
  rw [← hs] at hE
  have HS := hid hs2
  clear hx0 hx1 hc hs hs2
  have hl0 : 0 < l.length := by omega
  have hl1 : 1 < l.length := by omega
  have hl2 : ¬ l.length < 2 := by omega
  go_enter Try.func79, Try.ntmps79
  by_cases c1 : 2048 < s
  · have he : Knot.err l = 3 := by unfold Knot.err; rw [if_neg (by omega), ← HS.out, if_pos c1]
    have ht : Knot.text l = [] := by unfold Knot.text; rw [he]; rfl
    have hr : Knot.rest l = [] := by unfold Knot.rest; rw [he]; rfl
    rw [he, ht, hr]
    go_wp2
    go_quiet (fail)
    go_wp2_with fail
    go_ret3
    exact ⟨_, _, _, rfl, Rd.nil _, Rd.nil _, rfl⟩
  · by_cases c2 : l.length < s + 6
    · have he : Knot.err l = 2 := by unfold Knot.err; rw [if_neg (by omega), ← HS.out, if_neg c1, if_pos c2]
      have ht : Knot.text l = [] := by unfold Knot.text; rw [he]; rfl
      have hr : Knot.rest l = [] := by unfold Knot.rest; rw [he]; rfl
      rw [he, ht, hr]
      go_wp2
      go_quiet (fail)
      go_wp2_with fail
      go_ret3
      exact ⟨_, _, _, rfl, Rd.nil _, Rd.nil _, rfl⟩
    · have r1 : Rd w (.slice (some ⟨b, off, none⟩) (s + 2) cap) (l.take (s + 2)) := by
        have := Rd.part hcap hcm HC.out 0 (s + 2) off cap (by omega) rfl rfl
        simpa using this
      have r2 : Rd w (.slice (some ⟨b, off + (s + 2), none⟩) (l.length - (s + 2)) (cap - (s + 2))) (l.drop (s + 2)) := by
        have := Rd.part hcap hcm HC.out (s + 2) (l.length - (s + 2)) (off + (s + 2)) (cap - (s + 2)) (by omega) rfl rfl
        rwa [List.take_of_length_le (by simp)] at this
      have f1 : (0 : Int) ≤ 2 + (s : Int) := by omega
      have f2 : 2 + (s : Int) ≤ (cap : Int) := by omega
      have f3 : 2 + (s : Int) ≤ (l.length : Int) := by omega
      have f4 : (2 + (s : Int)).toNat = s + 2 := by omega
      have f5 : s + 2 ≤ cap := by omega
      have f6 : s + 2 ≤ l.length := by omega
      have f7 : ¬ cap = s + 2 := by omega
      by_cases c3 : Crc.sum (l.take (s + 2)) = Knot.num (l.drop (s + 2)) 4
      · have he : Knot.err l = 0 := by unfold Knot.err; rw [if_neg (by omega), ← HS.out, if_neg c1, if_neg c2, if_neg (by simpa using c3)]
        have ht : Knot.text l = (l.drop 2).take s := by unfold Knot.text; rw [he, ← HS.out]; rfl
        have hr : Knot.rest l = l.drop (s + 6) := by unfold Knot.rest; rw [he, ← HS.out]; rfl
        have r3 : ∀ c, c = cap - 2 → Rd w (.slice (some ⟨b, off + 2, none⟩) s c) (Knot.text l) := by
          intro c hcc
          rw [ht]; exact Rd.part hcap hcm HC.out 2 s (off + 2) c (by omega) rfl hcc
        have r4 : ∀ o c, c = cap - (s + 6) → (l.length - (s + 6) = 0 ∨ o = off + (s + 6)) → Rd w (.slice (some ⟨b, o, none⟩) (l.length - (s + 6)) c) (Knot.rest l) := by
          intro o c hcc ho
          subst hcc
          rw [hr]
          rcases ho with ho | rfl
          · rw [List.drop_eq_nil_of_le (by omega), ho]
            exact ⟨_, _, rfl, by simp, by unfold maxLen; omega, (fun h => by cases h), fun _ _ j hj => by cases hj⟩
          · have := Rd.part hcap hcm HC.out (s + 6) (l.length - (s + 6)) (off + (s + 6)) (cap - (s + 6)) (by omega) rfl rfl
            rwa [List.take_of_length_le (by simp)] at this
        rw [he]
        have hq : ((((Crc.sum (l.take (s + 2))).toNat : Nat) : Int) != (((Knot.num (l.drop (s + 2)) 4).toNat : Nat) : Int)) = false := by rw [c3]; simp
        have R3 := hid r3
        have R4 := hid r4
        clear c3 he ht hr r3 r4
        have g1 : (0 : Int) ≤ 2 + (s : Int) + 4 := by omega
        have g3 : 2 + (s : Int) + 4 ≤ (l.length : Int) := by omega
        have g4 : (2 + (s : Int) + 4).toNat = s + 6 := by omega
        have g5 : s + 6 ≤ cap := by omega
        have g6 : s + 6 ≤ l.length := by omega
        have g8 : ¬ cap = 2 := by omega
        go_wp2
        go_quiet (fail)
        go_wp2_with fail
        go_quiet ((first | (go_at_call 62; exact quiet_from (sum_any _ _ _ (r1.drewN _))) | (go_at_call 82; exact quiet_from (number_any _ _ _ (r2.drewN _) (by simp; omega)))))
        go_wp2_with fail
        by_cases c4 : cap = s + 6
        · go_quiet (fail)
          go_wp2_with fail
          go_ret3
          exact ⟨_, _, _, rfl, R3.out _ (by omega), R4.out _ _ (by omega) (Or.inl (by omega)), by simp; rfl⟩
        · go_quiet (fail)
          go_wp2_with fail
          go_ret3
          exact ⟨_, _, _, rfl, R3.out _ rfl, R4.out _ _ rfl (Or.inr rfl), by simp; rfl⟩
      · have he : Knot.err l = 5 := by unfold Knot.err; rw [if_neg (by omega), ← HS.out, if_neg c1, if_neg c2, if_pos c3]
        have ht : Knot.text l = [] := by unfold Knot.text; rw [he]; rfl
        have hr : Knot.rest l = [] := by unfold Knot.rest; rw [he]; rfl
        rw [he, ht, hr]
        have hq : ((((Crc.sum (l.take (s + 2))).toNat : Nat) : Int) != (((Knot.num (l.drop (s + 2)) 4).toNat : Nat) : Int)) = true := by
          rw [bne_iff_ne]
          intro e
          exact c3 (BitVec.eq_of_toNat_eq (by exact_mod_cast e))
        clear c3 he ht hr
        go_wp2
        go_quiet (fail)
        go_wp2_with fail
        go_quiet ((first | (go_at_call 62; exact quiet_from (sum_any _ _ _ (r1.drewN _))) | (go_at_call 82; exact quiet_from (number_any _ _ _ (r2.drewN _) (by simp; omega)))))
        go_wp2_with fail
        go_ret3
        exact ⟨_, _, _, rfl, Rd.nil _, Rd.nil _, by simp; rfl⟩

set_option maxHeartbeats 400000 in
theorem split_short (a : Option Addr) (cap : Nat) (l : List UInt8) (w : World) (h2 : l.length < 2) :
    Calls Try.prog 79 #[.slice a l.length cap] w fun e w' => e = .returned (.tuple #[.slice none 0 0, .slice none 0 0, .int .i64 2]) ∧ w' = w := by
  have h2' : (l.length : Int) < 2 := by omega
  go_enter Try.func79, Try.ntmps79
  go_wp2
  go_ret3
  exact ⟨rfl, rfl⟩

/-- THE CONTRACT of split: the pieces are read, not copied. -/
theorem split_any (v : Value) (l : List UInt8) (w : World) (h : Rd w v l) :
    Calls Try.prog 79 #[v] w fun e w' => ∃ tv rv n, e = .returned (.tuple #[tv, rv, .int .i64 (Knot.err l)]) ∧ Rd w tv (Knot.text l) ∧ Rd w rv (Knot.rest l) ∧ w' = w.drewN n := by
  by_cases h2 : 2 ≤ l.length
  · obtain ⟨b, off, cap, rfl, h1, hm, _, hc⟩ := h.pos (by omega)
    unfold maxLen at hm
    exact split_some b off cap l w h2 h1 (by omega) hc
  · obtain ⟨a, cap, rfl, _⟩ := h
    have he : Knot.err l = 2 := by unfold Knot.err; rw [if_pos (by omega)]
    have ht : Knot.text l = [] := by unfold Knot.text; rw [he]; rfl
    have hr : Knot.rest l = [] := by unfold Knot.rest; rw [he]; rfl
    rw [he, ht, hr]
    refine (split_short a cap l w (by omega)).mono ?_
    rintro e w' ⟨rfl, rfl⟩
    exact ⟨_, _, 0, rfl, Rd.nil _, Rd.nil _, rfl⟩

end Go.Proofs.Ytafpgglebjllbaa
