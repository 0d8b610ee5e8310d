/-
  ink.front: its contract.
-/
import Derived.Test.YtafpgglebjllbaaPenKit
import Derived.Test.YtafpgglebjllbaaInkM
namespace Go.Proofs.Ytafpgglebjllbaa
open Go.RowKit

theorem acc_step (acc x j : Nat) (h : acc < 128 ^ j) : acc + x % 128 * 128 ^ j < 128 ^ (j + 1) := by
  have h1 : x % 128 ≤ 127 := by omega
  have h2 : x % 128 * 128 ^ j ≤ 127 * 128 ^ j := Nat.mul_le_mul_right _ h1
  rw [Nat.pow_succ]
  omega

theorem andnot128 (x : UInt8) : Go.bits .andNot .u8 (x.toNat : Int) 128 = ((x.toNat % 128 : Nat) : Int) := by
  have h := u8_andNot_nat x.toNat 128 x.toNat_lt (by omega)
  have h2 : ∀ y : Fin 256, y.val &&& (255 - 128) = y.val % 128 := by decide +kernel
  rw [show ((128 : Int)) = ((128 : Nat) : Int) from rfl, h, h2 ⟨x.toNat, x.toNat_lt⟩]

theorem or_step (acc : Nat) (x : UInt8) (j : Nat) (hj : j ≤ 9) (h : acc < 128 ^ j) (h9 : j = 9 → x.toNat ≤ 1) :
    Go.bits .or .u64 (acc : Int) (IntKind.u64.wrap (IntKind.u64.wrap (Go.bits .andNot .u8 (x.toNat : Int) 128) * 2 ^ (7 * j))) = ((acc + x.toNat % 128 * 128 ^ j : Nat) : Int) := by
  have hp : (128 : Nat) ^ j = 2 ^ (7 * j) := by rw [Nat.pow_mul]
  have hx : x.toNat % 128 < 128 := Nat.mod_lt _ (by omega)
  have hb : x.toNat % 128 * 2 ^ (7 * j) < 18446744073709551616 := by
    by_cases c : j = 9
    · subst c
      have := h9 rfl
      have : x.toNat % 128 ≤ 1 := by omega
      have h3 : x.toNat % 128 * 2 ^ (7 * 9) ≤ 1 * 2 ^ (7 * 9) := Nat.mul_le_mul_right _ this
      omega
    · have h1 : (2 : Nat) ^ (7 * j) ≤ 2 ^ 56 := Nat.pow_le_pow_right (by omega) (by omega)
      have h2 : x.toNat % 128 * 2 ^ (7 * j) ≤ 127 * 2 ^ 56 := Nat.mul_le_mul (by omega) h1
      omega
  have ha : acc < 18446744073709551616 := by
    rw [hp] at h
    have h1 : (2 : Nat) ^ (7 * j) ≤ 2 ^ 63 := Nat.pow_le_pow_right (by omega) (by omega)
    omega
  rw [andnot128, IntKind.wrap_u64, IntKind.wrap_u64]
  have e1 : ((x.toNat % 128 : Nat) : Int) % 18446744073709551616 = ((x.toNat % 128 : Nat) : Int) := by omega
  rw [e1]
  have e2 : ((x.toNat % 128 : Nat) : Int) * 2 ^ (7 * j) % 18446744073709551616 = ((x.toNat % 128 * 2 ^ (7 * j) : Nat) : Int) := by
    have : ((x.toNat % 128 : Nat) : Int) * 2 ^ (7 * j) = ((x.toNat % 128 * 2 ^ (7 * j) : Nat) : Int) := by simp
    rw [this]
    omega
  rw [e2, u64_or_nat _ _ ha hb, Nat.or_comm, nat_join (7 * j) _ _ (by rw [Nat.mul_mod_left]) (by rw [← hp]; exact h), hp, Nat.add_comm]

set_option maxRecDepth 100000 in
set_option maxHeartbeats 4000000 in
theorem front_some (b off cap : Nat) (l : List UInt8) (w : World) (hm : l.length ≤ 9223372036854775807) (hc : ∀ j, j < l.length → w.cell? ⟨b, off + j, none⟩ = some (bv (l.getD j 0))) :
    Calls Try.prog 80 #[.slice (some ⟨b, off, none⟩) l.length cap] w fun e w' => e = .returned (.tuple #[.int .u64 ((Ink.front l).1 : Int), .int .i64 ((Ink.front l).2 : Int)]) ∧ w = w' := by
  have HC := hid hc
  clear hc
  by_cases hsplit : l.length ≤ 10
  · have hs0 : Hid (0 < 128 ^ 0 ∧ Ink.scan l (l.length - 0) 0 0 = Ink.front l) := ⟨by decide, by unfold Ink.front; rw [Nat.sub_zero, Nat.min_eq_left hsplit]⟩
    go_enter Try.func80, Try.ntmps80
    go_wp2
    go_loop [4, 10] (fun u i => ∃ (j acc : Nat), j ≤ l.length ∧ i = .int .i64 j ∧ u = .int .u64 acc ∧ Hid (acc < 128 ^ j ∧ Ink.scan l (l.length - j) j acc = Ink.front l)) (fun _ i => l.length - (intOf i).toNat)
    case atStart => exact ⟨0, 0, by omega, rfl, rfl, hs0⟩
    case round =>
      obtain ⟨j, acc, hj, rfl, rfl, HS⟩ := hrel
      by_cases hlt : j < l.length
      · obtain ⟨x, hx⟩ : ∃ x, x = l.getD j 0 := ⟨_, rfl⟩
        have hcell := HC.out j (by omega)
        rw [← hx, bv_eq] at hcell
        obtain ⟨r, hr⟩ : ∃ r, r = l.length - (j + 1) := ⟨_, rfl⟩
        have hsc := HS.out.2
        rw [show l.length - j = r + 1 by omega, Ink.scan, ← hx] at hsc
        have HR := hid hr
        have hxb := x.toNat_lt
        clear hr hx
        by_cases c1 : j = 9 ∧ 1 < x.toNat
        · rw [if_pos c1] at hsc
          have HSC := hid hsc
          obtain ⟨c1a, c1b⟩ := c1
          subst c1a
          clear hsc
          go_wp2
          go_ret2
          exact ⟨by rw [← HSC.out]; rfl, rfl⟩
        · rw [if_neg c1] at hsc
          have hor := hid (or_step acc x j (by omega) HS.out.1 (fun e => by
            by_cases c : 1 < x.toNat
            · exact absurd ⟨e, c⟩ c1
            · omega))
          by_cases c2 : 128 ≤ x.toNat
          · rw [if_pos c2] at hsc
            have HSC := hid hsc
            clear hsc
            have hc9 : j ≠ 9 := fun e => c1 ⟨e, by omega⟩
            clear c1
            go_wp2
            go_round
            case rel =>
              refine ⟨j + 1, acc + x.toNat % 128 * 128 ^ j, by omega, by go_num, by rw [hor.out], ⟨?_, by rw [← HR.out]; exact HSC.out⟩⟩
              exact acc_step acc x.toNat j HS.out.1
            case measure => simp [intOf]; omega
          · rw [if_neg c2] at hsc
            by_cases c3 : x.toNat = 0 ∧ 0 < j
            · rw [if_pos c3] at hsc
              have HSC := hid hsc
              obtain ⟨c3a, c3b⟩ := c3
              have hx0 : (((x.toNat : Int)) == 0) = true := by simp [c3a]
              have hj0 : (0 : Int) < (j : Int) := by omega
              have hx1 : ¬ 1 < x.toNat := by omega
              clear hsc c1 c3a
              by_cases c9 : j = 9
              · subst c9
                go_wp2
                go_ret2
                exact ⟨by rw [← HSC.out]; rfl, rfl⟩
              · go_wp2
                go_ret2
                exact ⟨by rw [← HSC.out]; rfl, rfl⟩
            · rw [if_neg c3] at hsc
              have HSC := hid hsc
              clear hsc
              by_cases c4 : x.toNat = 0
              · have hj0 : j = 0 := by omega
                have hx0 : (((x.toNat : Int)) == 0) = true := by simp [c4]
                have hx1 : ¬ 1 < x.toNat := by omega
                have hjz : ¬ (0 : Int) < (j : Int) := by omega
                have hj9 : j ≠ 9 := by omega
                clear c1 c3 c4 hj0
                go_wp2
                go_ret2
                exact ⟨by rw [← HSC.out, ← hor.out]; rfl, rfl⟩
              · have hx0 : (((x.toNat : Int)) == 0) = false := by simp; omega
                clear c3 c4
                by_cases c9 : j = 9
                · subst c9
                  have hx1 : ¬ 1 < x.toNat := fun h => c1 ⟨rfl, h⟩
                  clear c1
                  go_wp2
                  go_ret2
                  exact ⟨by rw [← HSC.out, ← hor.out]; rfl, rfl⟩
                · clear c1
                  go_wp2
                  go_ret2
                  exact ⟨by rw [← HSC.out, ← hor.out]; rfl, rfl⟩
      · obtain rfl : l.length = j := by omega
        have hsc := HS.out.2
        rw [Nat.sub_self, Ink.scan] at hsc
        have HSC := hid hsc
        clear hsc
        go_wp2
        go_ret2
        exact ⟨by rw [← HSC.out]; rfl, rfl⟩
  · have hs0 : Hid (0 < 128 ^ 0 ∧ Ink.scan l (10 - 0) 0 0 = Ink.front l) := ⟨by decide, by unfold Ink.front; rw [Nat.sub_zero, Nat.min_eq_right (by omega)]⟩
    have hl10 : 10 < l.length := by omega
    go_enter Try.func80, Try.ntmps80
    go_wp2
    go_loop [4, 10] (fun u i => ∃ (j acc : Nat), j ≤ 10 ∧ i = .int .i64 j ∧ u = .int .u64 acc ∧ Hid (acc < 128 ^ j ∧ Ink.scan l (10 - j) j acc = Ink.front l)) (fun _ i => 10 - (intOf i).toNat)
    case atStart => exact ⟨0, 0, by omega, rfl, rfl, hs0⟩
    case round =>
      obtain ⟨j, acc, hj, rfl, rfl, HS⟩ := hrel
      by_cases hlt : j < 10
      · obtain ⟨x, hx⟩ : ∃ x, x = l.getD j 0 := ⟨_, rfl⟩
        have hcell := HC.out j (by omega)
        rw [← hx, bv_eq] at hcell
        obtain ⟨r, hr⟩ : ∃ r, r = 10 - (j + 1) := ⟨_, rfl⟩
        have hsc := HS.out.2
        rw [show 10 - j = r + 1 by omega, Ink.scan, ← hx] at hsc
        have HR := hid hr
        have hxb := x.toNat_lt
        clear hr hx
        by_cases c1 : j = 9 ∧ 1 < x.toNat
        · rw [if_pos c1] at hsc
          have HSC := hid hsc
          obtain ⟨c1a, c1b⟩ := c1
          subst c1a
          clear hsc
          go_wp2
          go_ret2
          exact ⟨by rw [← HSC.out]; rfl, rfl⟩
        · rw [if_neg c1] at hsc
          have hor := hid (or_step acc x j (by omega) HS.out.1 (fun e => by
            by_cases c : 1 < x.toNat
            · exact absurd ⟨e, c⟩ c1
            · omega))
          by_cases c2 : 128 ≤ x.toNat
          · rw [if_pos c2] at hsc
            have HSC := hid hsc
            clear hsc
            have hc9 : j ≠ 9 := fun e => c1 ⟨e, by omega⟩
            clear c1
            go_wp2
            go_round
            case rel =>
              refine ⟨j + 1, acc + x.toNat % 128 * 128 ^ j, by omega, by go_num, by rw [hor.out], ⟨?_, by rw [← HR.out]; exact HSC.out⟩⟩
              exact acc_step acc x.toNat j HS.out.1
            case measure => simp [intOf]; omega
          · rw [if_neg c2] at hsc
            by_cases c3 : x.toNat = 0 ∧ 0 < j
            · rw [if_pos c3] at hsc
              have HSC := hid hsc
              obtain ⟨c3a, c3b⟩ := c3
              have hx0 : (((x.toNat : Int)) == 0) = true := by simp [c3a]
              have hj0 : (0 : Int) < (j : Int) := by omega
              have hx1 : ¬ 1 < x.toNat := by omega
              clear hsc c1 c3a
              by_cases c9 : j = 9
              · subst c9
                go_wp2
                go_ret2
                exact ⟨by rw [← HSC.out]; rfl, rfl⟩
              · go_wp2
                go_ret2
                exact ⟨by rw [← HSC.out]; rfl, rfl⟩
            · rw [if_neg c3] at hsc
              have HSC := hid hsc
              clear hsc
              by_cases c4 : x.toNat = 0
              · have hj0 : j = 0 := by omega
                have hx0 : (((x.toNat : Int)) == 0) = true := by simp [c4]
                have hx1 : ¬ 1 < x.toNat := by omega
                have hjz : ¬ (0 : Int) < (j : Int) := by omega
                have hj9 : j ≠ 9 := by omega
                clear c1 c3 c4 hj0
                go_wp2
                go_ret2
                exact ⟨by rw [← HSC.out, ← hor.out]; rfl, rfl⟩
              · have hx0 : (((x.toNat : Int)) == 0) = false := by simp; omega
                clear c3 c4
                by_cases c9 : j = 9
                · subst c9
                  have hx1 : ¬ 1 < x.toNat := fun h => c1 ⟨rfl, h⟩
                  clear c1
                  go_wp2
                  go_ret2
                  exact ⟨by rw [← HSC.out, ← hor.out]; rfl, rfl⟩
                · clear c1
                  go_wp2
                  go_ret2
                  exact ⟨by rw [← HSC.out, ← hor.out]; rfl, rfl⟩
      · obtain rfl : 10 = j := by omega
        have hsc := HS.out.2
        rw [Nat.sub_self, Ink.scan] at hsc
        have HSC := hid hsc
        clear hsc
        go_wp2
        go_ret2
        exact ⟨by rw [← HSC.out]; rfl, rfl⟩

set_option maxHeartbeats 400000 in
theorem front_none (a : Option Addr) (cap : Nat) (w : World) :
    Calls Try.prog 80 #[.slice a 0 cap] w fun e w' => e = .returned (.tuple #[.int .u64 0, .int .i64 0]) ∧ w = w' := by
  go_enter Try.func80, Try.ntmps80
  go_wp2
  refine wp_loop_rounds 1 ?_
  rw [rounds_succ]
  go_wp2
  go_ret2
  exact ⟨rfl, rfl⟩

/-- THE CONTRACT of front. -/
theorem front_any (v : Value) (l : List UInt8) (w : World) (h : Rd w v l) :
    Calls Try.prog 80 #[v] w fun e w' => e = .returned (.tuple #[.int .u64 ((Ink.front l).1 : Int), .int .i64 ((Ink.front l).2 : Int)]) ∧ w = w' := by
  by_cases hl : 0 < l.length
  · obtain ⟨b, off, cap, rfl, h1, h2, _, hc⟩ := h.pos hl
    unfold maxLen at h2
    exact front_some b off cap l w (by omega) hc
  · have : l = [] := List.eq_nil_of_length_eq_zero (by omega)
    subst this
    obtain ⟨a, cap, rfl, _⟩ := h
    exact front_none a cap w

end Go.Proofs.Ytafpgglebjllbaa
