/-
  quadrilleref01.Take: its contract.
-/
import Derived.Test.YtafpgglebjllbaaRefNum
import Derived.Test.YtafpgglebjllbaaInkS
import Derived.Test.YtafpgglebjllbaaMat
import Derived.OwnWalk
namespace Go.Proofs.Ytafpgglebjllbaa
open Go.RowKit

/-- What Take answers of a list l that v reads as. -/
def Took (w : World) (v : Value) (l : List UInt8) (e : Ending) : Prop :=
  ((Ink.front l).2 = 0 ∧ e = .returned (.tuple #[.int .u64 0, .slice none 0 0, .bool false])) ∨
  (0 < (Ink.front l).2 ∧ ∃ v', e = .returned (.tuple #[.int .u64 ((Ink.front l).1 : Int), v', .bool true]) ∧ Rd w v' (l.drop (Ink.front l).2) ∧ v'.ownBlock = v.ownBlock)

theorem Took.no {w : World} {v : Value} {l : List UInt8} (h : Ink.front l = (0, 0)) : Took w v l (.returned (.tuple #[.int .u64 0, .slice none 0 0, .bool false])) := .inl ⟨by rw [h], rfl⟩

set_option maxRecDepth 100000 in
set_option maxHeartbeats 4000000 in
theorem take_some (b off cap : Nat) (l : List UInt8) (w : World) (hcap : l.length ≤ cap) (hm : cap ≤ 9223372036854775807) (hpos : 0 < l.length) (hc : ∀ j, j < l.length → w.cell? ⟨b, off + j, none⟩ = some (bv (l.getD j 0))) :
    Calls Try.prog 81 #[.slice (some ⟨b, off, none⟩) l.length cap] w fun e w' => Took w (.slice (some ⟨b, off, none⟩) l.length cap) l e ∧ Below w.heap.size w w' := by
  have HC := hid hc
  have hs0 : Hid (∀ j, j < 0 → 128 ≤ (l.getD j 0).toNat) := fun j hj => absurd hj (by omega)
  clear hc
  go_enter Try.func81, Try.ntmps81
  go_wp2
  go_loop [5] (fun i => ∃ k : Nat, k ≤ l.length ∧ k ≤ 10 ∧ i = .int .i64 k ∧ Hid (∀ j, j < k → 128 ≤ (l.getD j 0).toNat)) (fun i => 10 - (intOf i).toNat)
  case atStart => exact ⟨0, by omega, by omega, rfl, hs0⟩
  case round =>
    obtain ⟨k, hk1, hk2, rfl, HK⟩ := hrel
    by_cases hkl : k < l.length
    · by_cases hkt : k < 10
      · obtain ⟨x, hx⟩ : ∃ x, x = l.getD k 0 := ⟨_, rfl⟩
        have hcell := HC.out k (by omega)
        rw [← hx, bv_eq] at hcell
        have HX := hid hx
        have hxb := x.toNat_lt
        clear hx
        by_cases c1 : 128 ≤ x.toNat
        · go_wp2
          go_round
          case rel =>
            refine ⟨k + 1, by omega, by omega, by go_num, fun j hj => ?_⟩
            by_cases e : j = k
            · subst e; rw [← HX.out]; exact c1
            · exact HK.out j (by omega)
          case measure => simp [intOf]; omega
        · have hend := hid (Ink.mid_end l k)
          have hs1 : Hid (k = 9 → k + 1 ≤ 9 → (l.getD 9 0).toNat ≤ 1) := fun e h => absurd h (by omega)
          have hl := hid (show (l.getD k 0).toNat < 128 by rw [← HX.out]; omega)
          go_wp2_with fail
          go_loop [6, 7] (fun u i => ∃ (j n : Nat) (z : Int), j ≤ k + 1 ∧ z = (j : Int) - 1 ∧ i = .int .i64 z ∧ u = .int .u64 n ∧ Hid (n = Ink.val (Ink.mid l j k)) ∧ Hid (k = 9 → j ≤ 9 → (l.getD 9 0).toNat ≤ 1)) (fun _ i => (intOf i + 1).toNat)
          case atStart => exact ⟨k + 1, 0, k, Nat.le_refl _, by omega, rfl, rfl, by rw [hend.out]; rfl, hs1⟩
          case round =>
            obtain ⟨j, n, z, hj, hz, rfl, rfl, HN, H9⟩ := hrel
            rcases j with _ | i
            · have hzn : ¬ (0 : Int) ≤ z := by omega
              have hzk := hid hj
              clear hj
              have hn := hid (show n < 18446744073709551616 by rw [HN.out]; exact Ink.mid_lt l k hkl (by omega) _ 0 rfl H9.out)
              go_wp2_with fail
              refine (refnum_any n _ rfl hn.out w).mono ?_
              rintro e w1 ⟨v1, rfl, ho1, hb1⟩
              obtain ⟨N, hNN⟩ : ∃ N, N = (Ink.num n).length := ⟨_, rfl⟩
              obtain ⟨va, vc, rfl⟩ : ∃ va vc, v1 = .slice va N vc := by
                obtain ⟨a, c, e, _⟩ := ho1.rd
                exact ⟨a, c, by rw [e, hNN]⟩
              have hN10 : N ≤ 10 := by rw [hNN]; exact (Ink.num_length n).1
              clear ho1
              by_cases c0 : (l.getD k 0).toNat = 0 ∧ 0 < k
              · have hne : N ≠ k + 1 := by rw [hNN, HN.out]; exact Ink.num_short l k hkl c0.1 c0.2
                have hne' : ((N : Int) == (k : Int) + 1) = false := by simp; omega
                have hfr := hid (Ink.front_bad l k HK.out hl.out (.inr c0))
                clear c0 hNN
                go_wp2
                go_ret3
                exact ⟨Took.no hfr.out, hb1⟩
              · have h0 : (l.getD k 0).toNat = 0 → k = 0 := fun e => by
                  rcases Nat.eq_zero_or_pos k with h | h
                  · exact h
                  · exact absurd ⟨e, h⟩ c0
                have hN : N = k + 1 := by rw [hNN, HN.out]; exact Ink.num_whole l k hkl (by omega) hl.out h0
                have hfr := hid (Ink.front_good l k hkl HK.out hl.out (by omega) (fun e => H9.out e (by omega)) h0)
                clear c0 h0 hNN
                subst hN
                have R := hid (show ∀ o c, c = cap - (k + 1) → (l.length - (k + 1) = 0 ∨ o = off + (k + 1)) → Rd w (.slice (some ⟨b, o, none⟩) (l.length - (k + 1)) c) (l.drop (k + 1)) from by
                  intro o c hcc ho
                  subst hcc
                  rcases ho with ho | rfl
                  · rw [List.drop_eq_nil_of_le (by omega), ho]
                    exact ⟨_, _, rfl, by simp, by unfold maxLen; omega, (fun h => by cases h), fun _ _ j hj => by cases hj⟩
                  · have := Rd.part hcap hm HC.out (k + 1) (l.length - (k + 1)) (off + (k + 1)) (cap - (k + 1)) (by omega) rfl rfl
                    rwa [List.take_of_length_le (by simp)] at this)
                have F1 := hid (show (Ink.front l).2 = k + 1 by rw [hfr.out])
                have F2 := hid (show ((Ink.front l).1 : Int) = (n : Int) by rw [hfr.out, HN.out])
                have f1 : (0 : Int) ≤ (k : Int) + 1 := by omega
                have f2 : (k : Int) + 1 ≤ (l.length : Int) := by omega
                have f4 : ((k : Int) + 1).toNat = k + 1 := by omega
                have f5 : k + 1 ≤ l.length := by omega
                have f6 : k + 1 ≤ cap := by omega
                have f7 : max ((k : Int) + 1) 0 = (k : Int) + 1 := by omega
                have f8 : IntKind.i64.wrap ((k : Int) + 1) = (k : Int) + 1 := IntWalk.i64_in _ (by omega)
                by_cases c4 : cap = k + 1
                · have hl0 : l.length = k + 1 := by omega
                  go_wp2_with fail
                  go_quiet (fail)
                  go_wp2
                  go_ret3
                  refine ⟨.inr ⟨by rw [F1.out]; omega, .slice (some ⟨b, off, none⟩) 0 0, by rw [F2.out]; rfl, ?_, rfl⟩, below_behind hb1 _⟩
                  rw [F1.out]
                  have := R.out off 0 (by omega) (.inl (by omega))
                  rwa [show l.length - (k + 1) = 0 by omega] at this
                · have f9 : ¬ cap - (k + 1) = 0 := by omega
                  go_wp2_with fail
                  go_quiet (fail)
                  go_wp2
                  go_ret3
                  refine ⟨.inr ⟨by rw [F1.out]; omega, .slice (some ⟨b, off + (k + 1), none⟩) (l.length - (k + 1)) (cap - (k + 1)), by rw [F2.out]; rfl, ?_, rfl⟩, below_behind hb1 _⟩
                  rw [F1.out]
                  exact R.out _ _ rfl (.inr rfl)
            · obtain rfl : z = (i : Int) := by omega
              clear hz
              obtain ⟨y, hy⟩ : ∃ y, y = l.getD i 0 := ⟨_, rfl⟩
              have hcell2 := HC.out i (by omega)
              rw [← hy, bv_eq] at hcell2
              have hyb := y.toNat_lt
              have hval := Ink.mid_step l i k (by omega) hkl
              rw [← hy] at hval
              have HV := hid (show Ink.val (Ink.mid l i k) = y.toNat % 128 + 128 * n by rw [hval, HN.out]; rfl)
              have HY := hid hy
              clear hval hy
              by_cases c9 : i = 9 ∧ 1 < y.toNat
              · obtain ⟨c9a, c9b⟩ := c9
                subst c9a
                obtain rfl : k = 9 := by omega
                have hfr := hid (Ink.front_bad l 9 HK.out hl.out (.inl ⟨rfl, by rw [← HY.out]; exact c9b⟩))
                go_wp2
                go_ret3
                exact ⟨Took.no hfr.out, Below.refl _ _⟩
              · have h9 := hid (show k = 9 → i ≤ 9 → (l.getD 9 0).toNat ≤ 1 from fun e h => by
                  by_cases c : i = 9
                  · subst c; rw [← HY.out]
                    rcases Nat.lt_or_ge 1 y.toNat with h' | h'
                    · exact absurd ⟨rfl, h'⟩ c9
                    · exact h'
                  · exact H9.out e (by omega))
                have hlt := Ink.mid_lt l k hkl (by omega) _ i rfl h9.out
                rw [HV.out] at hlt
                have hw1 : IntKind.u64.wrap ((n : Int) * 128) = (n : Int) * 128 := by rw [IntKind.wrap_u64]; omega
                have hw3 : IntKind.u64.wrap ((y.toNat : Int) % 128) = (y.toNat : Int) % 128 := by rw [IntKind.wrap_u64]; omega
                have hw2 : IntKind.u64.wrap ((n : Int) * 128 + (y.toNat : Int) % 128) = (n : Int) * 128 + (y.toNat : Int) % 128 := by rw [IntKind.wrap_u64]; omega
                have hw4 : IntKind.i64.wrap ((i : Int) - 1) = (i : Int) - 1 := IntWalk.i64_in _ (by omega)
                clear hlt
                by_cases ci : i = 9
                · subst ci
                  have hy1 : ¬ 1 < y.toNat := fun h => c9 ⟨rfl, h⟩
                  clear c9
                  go_wp2
                  go_round
                  case rel => exact ⟨9, y.toNat % 128 + 128 * n, _, by omega, rfl, rfl, by go_num, HV.out.symm, h9⟩
                  case measure =>
                    first
                      | (simp only [intOf]; decide)
                      | (simp only [intOf]; omega)
                      | decide
                · clear c9
                  go_wp2
                  go_round
                  case rel => exact ⟨i, y.toNat % 128 + 128 * n, _, by omega, rfl, rfl, by go_num, HV.out.symm, h9⟩
                  case measure =>
                    first
                      | (show ((i : Int) - 1 + 1).toNat < ((i : Int) + 1).toNat; omega)
                      | (simp only [intOf]; omega)
                      | (simp (maxSteps := 1000000) [intOf]; omega)
      · obtain rfl : k = 10 := by omega
        have hfr := hid (Ink.front_none1 l 10 HK.out (by omega))
        go_wp2
        go_ret3
        exact ⟨Took.no hfr.out, Below.refl _ _⟩
    · obtain rfl : l.length = k := by omega
      have hfr := hid (Ink.front_none1 l l.length HK.out (by omega))
      go_wp2
      go_ret3
      exact ⟨Took.no hfr.out, Below.refl _ _⟩

end Go.Proofs.Ytafpgglebjllbaa
