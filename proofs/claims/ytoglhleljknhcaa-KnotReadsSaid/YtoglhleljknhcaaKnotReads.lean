/-
  All bytes begin with a knot, or don't, are one, or aren't, and come back untouched: quadrillelaw02.KnotReads returns true for every input, without any condition.
  (The frame behind the walk is the guide's shell.)
-/
import Derived.Test.YtoglhleljknhcaaRows
import Derived.WalkKit
import Derived.Test.YtoglhleljknhcaaTurn
import Derived.Test.YtoglhleljknhcaaRefNext
import Derived.Test.YtoglhleljknhcaaSpare
import Derived.Test.YtoglhleljknhcaaTie
import Derived.ProofKit
import Derived.OpenShut
import Derived.ShutString
import Derived.ChangeOld
import Derived.Below
namespace Go.Proofs.Ytoglhleljknhcaa.knotReads
open Go.ChangeShapes Go.WideShapes Go.ChangeAt Go.RowKit
open Go.ChangeMaps (open_string shut_string)
set_option linter.unusedVariables false

theorem own : ownKnob Try.prog.godebug = none := by kernel_rfl
theorem laidOut : laidOutB Try.prog = true := by kernel_rfl

set_option maxRecDepth 100000 in
set_option maxHeartbeats 4000000 in
theorem walk (a0 : Option Addr) (len0 cap0 : Nat) (z0 : List Int) (w : World) (w0 : IsRow .u8 w a0 len0 cap0 z0) :
    Calls Try.prog 11 #[.slice a0 len0 cap0] w fun e w' => e = .returned (.bool true) ∧ Below w.heap.size w w' := by
  obtain ⟨hb1, hb2, hb3⟩ := w0.bounds
  clear hb3
  by_cases h6 : len0 ≤ 600
  · obtain ⟨l, hl, hrd⟩ := w0.rd len0 (by omega)
    have hsm := hid (show l.length ≤ 600 by omega)
    obtain ⟨K, hK⟩ : ∃ K, K = Knot.err l := ⟨_, rfl⟩
    have HK := hid hK
    have hne : ((K : Int) != K) = false := by simp
    clear hl w0 hK
    by_cases c0 : K = 0
    · clear hne
      by_cases c1 : Knot.rest l = []
      · have hue := hid (show Knot.uerr l = 0 by unfold Knot.uerr; rw [← HK.out, c0, c1]; rfl)
        have hut := hid (show Knot.utext l = Knot.text l by unfold Knot.utext; rw [hue.out]; rfl)
        have hrl : (Knot.rest l).length = 0 := by rw [c1]; rfl
        have HRL := hid hrl
        clear hrl c1
        subst c0
        go_enter Try.func11, Try.ntmps11
        go_wp2_with fail
        refine (awake2_any w).mono ?_
        rintro e w1 ⟨rfl, hb1⟩
        go_wp2_with fail
        refine (spare_any _ l w1 (hrd.below hb1) (by have := hsm.out; omega)).mono ?_
        rintro e w2 ⟨qv, rfl, hsp, hb2⟩
        have hA2 := hb1.trans (hb2.mono hb1.size)
        go_wp2_with fail
        refine (next_any qv l _ hsp.rd (by have := hsm.out; omega)).mono ?_
        rintro e w3 ⟨tv, rv, rfl, ht3, hr3, hb3⟩
        rw [← HK.out]
        have hA3 := hA2.trans (hb3.mono hA2.size)
        go_wp2_with fail
        refine (refnext_any _ l _ (hrd.below hA3) (by have := hsm.out; omega)).mono ?_
        rintro e w4 ⟨xv, mv, rfl, hx4, hm4, hb4⟩
        rw [← HK.out]
        have hA4 := hA3.trans (hb4.mono hA3.size)
        have hsp4 := (hsp.below hb3).below hb4
        obtain ⟨ma, mc, rfl⟩ : ∃ ma mc, mv = .slice ma (Knot.rest l).length mc := by
          obtain ⟨ma, mc, e, _⟩ := hm4.rd
          exact ⟨ma, mc, e⟩
        have hm4' := hid hm4
        rw [HRL.out]
        go_wp2_with fail
        refine (same_any tv xv _ _ _ (ht3.below hb4).rd hx4.rd).mono ?_
        rintro e w5 ⟨rfl, rfl⟩
        rw [beq_self_eq_true]
        go_wp2_with fail
        refine (same_any rv _ (Knot.rest l) (Knot.rest l) _ (hr3.below hb4).rd (by have := hm4.rd; rwa [HRL.out] at this)).mono ?_
        rintro e w5 ⟨rfl, rfl⟩
        rw [beq_self_eq_true]
        go_wp2_with fail
        refine (kept_any qv _ l _ _ hsp4 (hrd.below hA4) (by have := hsm.out; omega)).mono ?_
        rintro e w5 ⟨rfl, rfl⟩
        go_wp2_with fail
        refine (untie_any qv l _ hsp4.rd (by have := hsm.out; omega)).mono ?_
        rintro e w6 ⟨uv, rfl, hu6, hb6⟩
        rw [hue.out]
        rw [hut.out] at hu6
        have hA6 := hA4.trans (hb6.mono hA4.size)
        go_wp2_with fail
        refine (same_any uv xv _ _ _ hu6.rd (hx4.below hb6).rd).mono ?_
        rintro e w7 ⟨rfl, rfl⟩
        rw [beq_self_eq_true]
        go_wp2_with fail
        refine (kept_any qv _ l _ _ (hsp4.below hb6) (hrd.below hA6) (by have := hsm.out; omega)).mono ?_
        rintro e w8 ⟨rfl, rfl⟩
        go_wp2
        go_ret
        exact ⟨rfl, hA6⟩
      · have hue := hid (show Knot.uerr l = 4 by unfold Knot.uerr; rw [← HK.out, c0, if_neg (by simp), if_neg c1])
        have hut := hid (show Knot.utext l = [] by unfold Knot.utext; rw [hue.out]; rfl)
        have hrp : 0 < (Knot.rest l).length := by
          rcases Nat.eq_zero_or_pos (Knot.rest l).length with h | h
          · exact absurd (List.eq_nil_of_length_eq_zero h) c1
          · exact h
        clear c1
        subst c0
        go_enter Try.func11, Try.ntmps11
        go_wp2_with fail
        refine (awake2_any w).mono ?_
        rintro e w1 ⟨rfl, hb1⟩
        go_wp2_with fail
        refine (spare_any _ l w1 (hrd.below hb1) (by have := hsm.out; omega)).mono ?_
        rintro e w2 ⟨qv, rfl, hsp, hb2⟩
        have hA2 := hb1.trans (hb2.mono hb1.size)
        go_wp2_with fail
        refine (next_any qv l _ hsp.rd (by have := hsm.out; omega)).mono ?_
        rintro e w3 ⟨tv, rv, rfl, ht3, hr3, hb3⟩
        rw [← HK.out]
        have hA3 := hA2.trans (hb3.mono hA2.size)
        go_wp2_with fail
        refine (refnext_any _ l _ (hrd.below hA3) (by have := hsm.out; omega)).mono ?_
        rintro e w4 ⟨xv, mv, rfl, hx4, hm4, hb4⟩
        rw [← HK.out]
        have hA4 := hA3.trans (hb4.mono hA3.size)
        have hsp4 := (hsp.below hb3).below hb4
        obtain ⟨ma, mc, rfl⟩ : ∃ ma mc, mv = .slice ma (Knot.rest l).length mc := by
          obtain ⟨ma, mc, e, _⟩ := hm4.rd
          exact ⟨ma, mc, e⟩
        go_wp2_with fail
        refine (same_any tv xv _ _ _ (ht3.below hb4).rd hx4.rd).mono ?_
        rintro e w5 ⟨rfl, rfl⟩
        rw [beq_self_eq_true]
        go_wp2_with fail
        refine (same_any rv _ (Knot.rest l) (Knot.rest l) _ (hr3.below hb4).rd hm4.rd).mono ?_
        rintro e w5 ⟨rfl, rfl⟩
        rw [beq_self_eq_true]
        go_wp2_with fail
        refine (kept_any qv _ l _ _ hsp4 (hrd.below hA4) (by have := hsm.out; omega)).mono ?_
        rintro e w5 ⟨rfl, rfl⟩
        go_wp2_with fail
        refine (untie_any qv l _ hsp4.rd (by have := hsm.out; omega)).mono ?_
        rintro e w6 ⟨uv, rfl, hu6, hb6⟩
        rw [hue.out]
        rw [hut.out] at hu6
        have hA6 := hA4.trans (hb6.mono hA4.size)
        go_wp2_with fail
        refine (same_any uv _ [] [] _ hu6.rd (Rd.nil _)).mono ?_
        rintro e w7 ⟨rfl, rfl⟩
        rw [beq_self_eq_true]
        go_wp2_with fail
        refine (kept_any qv _ l _ _ (hsp4.below hb6) (hrd.below hA6) (by have := hsm.out; omega)).mono ?_
        rintro e w8 ⟨rfl, rfl⟩
        go_wp2
        go_ret
        exact ⟨rfl, hA6⟩
    · have hf0 : ((K : Int) == 0) = false := by simpa using c0
      have hue := hid (show Knot.uerr l = K by unfold Knot.uerr; rw [← HK.out, if_pos c0])
      have hut := hid (show Knot.utext l = [] by unfold Knot.utext; rw [hue.out, if_neg c0])
      have htx := hid (show Knot.text l = [] by unfold Knot.text; rw [← HK.out, if_neg c0])
      have hkk : ((K : Int) == K) = true := by simp
      go_enter Try.func11, Try.ntmps11
      go_wp2_with fail
      refine (awake2_any w).mono ?_
      rintro e w1 ⟨rfl, hb1⟩
      go_wp2_with fail
      refine (spare_any _ l w1 (hrd.below hb1) (by have := hsm.out; omega)).mono ?_
      rintro e w2 ⟨qv, rfl, hsp, hb2⟩
      have hA2 := hb1.trans (hb2.mono hb1.size)
      go_wp2_with fail
      refine (next_any qv l _ hsp.rd (by have := hsm.out; omega)).mono ?_
      rintro e w3 ⟨tv, rv, rfl, ht3, hr3, hb3⟩
      rw [← HK.out]
      have hA3 := hA2.trans (hb3.mono hA2.size)
      go_wp2_with fail
      refine (refnext_any _ l _ (hrd.below hA3) (by have := hsm.out; omega)).mono ?_
      rintro e w4 ⟨xv, mv, rfl, hx4, hm4, hb4⟩
      rw [← HK.out]
      have hA4 := hA3.trans (hb4.mono hA3.size)
      have hsp4 := (hsp.below hb3).below hb4
      obtain ⟨ma, mc, rfl⟩ : ∃ ma mc, mv = .slice ma (Knot.rest l).length mc := by
        obtain ⟨ma, mc, e, _⟩ := hm4.rd
        exact ⟨ma, mc, e⟩
      go_wp2_with fail
      refine (same_any tv xv _ _ _ (ht3.below hb4).rd hx4.rd).mono ?_
      rintro e w5 ⟨rfl, rfl⟩
      rw [beq_self_eq_true]
      go_wp2_with fail
      refine (same_any rv _ (Knot.rest l) (Knot.rest l) _ (hr3.below hb4).rd hm4.rd).mono ?_
      rintro e w5 ⟨rfl, rfl⟩
      rw [beq_self_eq_true]
      go_wp2_with fail
      refine (kept_any qv _ l _ _ hsp4 (hrd.below hA4) (by have := hsm.out; omega)).mono ?_
      rintro e w5 ⟨rfl, rfl⟩
      go_wp2_with fail
      refine (untie_any qv l _ hsp4.rd (by have := hsm.out; omega)).mono ?_
      rintro e w6 ⟨uv, rfl, hu6, hb6⟩
      rw [hue.out]
      rw [hut.out] at hu6
      have hA6 := hA4.trans (hb6.mono hA4.size)
      go_wp2_with fail
      rw [htx.out] at hx4
      refine (same_any uv xv [] [] _ hu6.rd (hx4.below hb6).rd).mono ?_
      rintro e w7 ⟨rfl, rfl⟩
      rw [beq_self_eq_true]
      go_wp2_with fail
      refine (kept_any qv _ l _ _ (hsp4.below hb6) (hrd.below hA6) (by have := hsm.out; omega)).mono ?_
      rintro e w8 ⟨rfl, rfl⟩
      go_wp2
      go_ret
      exact ⟨rfl, hA6⟩
  · obtain ⟨l, hl, hrd⟩ := w0.rd 600 (by omega)
    have hsm := hid (show l.length ≤ 600 by omega)
    obtain ⟨K, hK⟩ : ∃ K, K = Knot.err l := ⟨_, rfl⟩
    have HK := hid hK
    have hne : ((K : Int) != K) = false := by simp
    clear hl w0 hK
    by_cases c0 : K = 0
    · clear hne
      by_cases c1 : Knot.rest l = []
      · have hue := hid (show Knot.uerr l = 0 by unfold Knot.uerr; rw [← HK.out, c0, c1]; rfl)
        have hut := hid (show Knot.utext l = Knot.text l by unfold Knot.utext; rw [hue.out]; rfl)
        have hrl : (Knot.rest l).length = 0 := by rw [c1]; rfl
        have HRL := hid hrl
        clear hrl c1
        subst c0
        go_enter Try.func11, Try.ntmps11
        go_wp2_with fail
        refine (awake2_any w).mono ?_
        rintro e w1 ⟨rfl, hb1⟩
        go_wp2_with fail
        refine (spare_any _ l w1 (hrd.below hb1) (by have := hsm.out; omega)).mono ?_
        rintro e w2 ⟨qv, rfl, hsp, hb2⟩
        have hA2 := hb1.trans (hb2.mono hb1.size)
        go_wp2_with fail
        refine (next_any qv l _ hsp.rd (by have := hsm.out; omega)).mono ?_
        rintro e w3 ⟨tv, rv, rfl, ht3, hr3, hb3⟩
        rw [← HK.out]
        have hA3 := hA2.trans (hb3.mono hA2.size)
        go_wp2_with fail
        refine (refnext_any _ l _ (hrd.below hA3) (by have := hsm.out; omega)).mono ?_
        rintro e w4 ⟨xv, mv, rfl, hx4, hm4, hb4⟩
        rw [← HK.out]
        have hA4 := hA3.trans (hb4.mono hA3.size)
        have hsp4 := (hsp.below hb3).below hb4
        obtain ⟨ma, mc, rfl⟩ : ∃ ma mc, mv = .slice ma (Knot.rest l).length mc := by
          obtain ⟨ma, mc, e, _⟩ := hm4.rd
          exact ⟨ma, mc, e⟩
        have hm4' := hid hm4
        rw [HRL.out]
        go_wp2_with fail
        refine (same_any tv xv _ _ _ (ht3.below hb4).rd hx4.rd).mono ?_
        rintro e w5 ⟨rfl, rfl⟩
        rw [beq_self_eq_true]
        go_wp2_with fail
        refine (same_any rv _ (Knot.rest l) (Knot.rest l) _ (hr3.below hb4).rd (by have := hm4.rd; rwa [HRL.out] at this)).mono ?_
        rintro e w5 ⟨rfl, rfl⟩
        rw [beq_self_eq_true]
        go_wp2_with fail
        refine (kept_any qv _ l _ _ hsp4 (hrd.below hA4) (by have := hsm.out; omega)).mono ?_
        rintro e w5 ⟨rfl, rfl⟩
        go_wp2_with fail
        refine (untie_any qv l _ hsp4.rd (by have := hsm.out; omega)).mono ?_
        rintro e w6 ⟨uv, rfl, hu6, hb6⟩
        rw [hue.out]
        rw [hut.out] at hu6
        have hA6 := hA4.trans (hb6.mono hA4.size)
        go_wp2_with fail
        refine (same_any uv xv _ _ _ hu6.rd (hx4.below hb6).rd).mono ?_
        rintro e w7 ⟨rfl, rfl⟩
        rw [beq_self_eq_true]
        go_wp2_with fail
        refine (kept_any qv _ l _ _ (hsp4.below hb6) (hrd.below hA6) (by have := hsm.out; omega)).mono ?_
        rintro e w8 ⟨rfl, rfl⟩
        go_wp2
        go_ret
        exact ⟨rfl, hA6⟩
      · have hue := hid (show Knot.uerr l = 4 by unfold Knot.uerr; rw [← HK.out, c0, if_neg (by simp), if_neg c1])
        have hut := hid (show Knot.utext l = [] by unfold Knot.utext; rw [hue.out]; rfl)
        have hrp : 0 < (Knot.rest l).length := by
          rcases Nat.eq_zero_or_pos (Knot.rest l).length with h | h
          · exact absurd (List.eq_nil_of_length_eq_zero h) c1
          · exact h
        clear c1
        subst c0
        go_enter Try.func11, Try.ntmps11
        go_wp2_with fail
        refine (awake2_any w).mono ?_
        rintro e w1 ⟨rfl, hb1⟩
        go_wp2_with fail
        refine (spare_any _ l w1 (hrd.below hb1) (by have := hsm.out; omega)).mono ?_
        rintro e w2 ⟨qv, rfl, hsp, hb2⟩
        have hA2 := hb1.trans (hb2.mono hb1.size)
        go_wp2_with fail
        refine (next_any qv l _ hsp.rd (by have := hsm.out; omega)).mono ?_
        rintro e w3 ⟨tv, rv, rfl, ht3, hr3, hb3⟩
        rw [← HK.out]
        have hA3 := hA2.trans (hb3.mono hA2.size)
        go_wp2_with fail
        refine (refnext_any _ l _ (hrd.below hA3) (by have := hsm.out; omega)).mono ?_
        rintro e w4 ⟨xv, mv, rfl, hx4, hm4, hb4⟩
        rw [← HK.out]
        have hA4 := hA3.trans (hb4.mono hA3.size)
        have hsp4 := (hsp.below hb3).below hb4
        obtain ⟨ma, mc, rfl⟩ : ∃ ma mc, mv = .slice ma (Knot.rest l).length mc := by
          obtain ⟨ma, mc, e, _⟩ := hm4.rd
          exact ⟨ma, mc, e⟩
        go_wp2_with fail
        refine (same_any tv xv _ _ _ (ht3.below hb4).rd hx4.rd).mono ?_
        rintro e w5 ⟨rfl, rfl⟩
        rw [beq_self_eq_true]
        go_wp2_with fail
        refine (same_any rv _ (Knot.rest l) (Knot.rest l) _ (hr3.below hb4).rd hm4.rd).mono ?_
        rintro e w5 ⟨rfl, rfl⟩
        rw [beq_self_eq_true]
        go_wp2_with fail
        refine (kept_any qv _ l _ _ hsp4 (hrd.below hA4) (by have := hsm.out; omega)).mono ?_
        rintro e w5 ⟨rfl, rfl⟩
        go_wp2_with fail
        refine (untie_any qv l _ hsp4.rd (by have := hsm.out; omega)).mono ?_
        rintro e w6 ⟨uv, rfl, hu6, hb6⟩
        rw [hue.out]
        rw [hut.out] at hu6
        have hA6 := hA4.trans (hb6.mono hA4.size)
        go_wp2_with fail
        refine (same_any uv _ [] [] _ hu6.rd (Rd.nil _)).mono ?_
        rintro e w7 ⟨rfl, rfl⟩
        rw [beq_self_eq_true]
        go_wp2_with fail
        refine (kept_any qv _ l _ _ (hsp4.below hb6) (hrd.below hA6) (by have := hsm.out; omega)).mono ?_
        rintro e w8 ⟨rfl, rfl⟩
        go_wp2
        go_ret
        exact ⟨rfl, hA6⟩
    · have hf0 : ((K : Int) == 0) = false := by simpa using c0
      have hue := hid (show Knot.uerr l = K by unfold Knot.uerr; rw [← HK.out, if_pos c0])
      have hut := hid (show Knot.utext l = [] by unfold Knot.utext; rw [hue.out, if_neg c0])
      have htx := hid (show Knot.text l = [] by unfold Knot.text; rw [← HK.out, if_neg c0])
      have hkk : ((K : Int) == K) = true := by simp
      go_enter Try.func11, Try.ntmps11
      go_wp2_with fail
      refine (awake2_any w).mono ?_
      rintro e w1 ⟨rfl, hb1⟩
      go_wp2_with fail
      refine (spare_any _ l w1 (hrd.below hb1) (by have := hsm.out; omega)).mono ?_
      rintro e w2 ⟨qv, rfl, hsp, hb2⟩
      have hA2 := hb1.trans (hb2.mono hb1.size)
      go_wp2_with fail
      refine (next_any qv l _ hsp.rd (by have := hsm.out; omega)).mono ?_
      rintro e w3 ⟨tv, rv, rfl, ht3, hr3, hb3⟩
      rw [← HK.out]
      have hA3 := hA2.trans (hb3.mono hA2.size)
      go_wp2_with fail
      refine (refnext_any _ l _ (hrd.below hA3) (by have := hsm.out; omega)).mono ?_
      rintro e w4 ⟨xv, mv, rfl, hx4, hm4, hb4⟩
      rw [← HK.out]
      have hA4 := hA3.trans (hb4.mono hA3.size)
      have hsp4 := (hsp.below hb3).below hb4
      obtain ⟨ma, mc, rfl⟩ : ∃ ma mc, mv = .slice ma (Knot.rest l).length mc := by
        obtain ⟨ma, mc, e, _⟩ := hm4.rd
        exact ⟨ma, mc, e⟩
      go_wp2_with fail
      refine (same_any tv xv _ _ _ (ht3.below hb4).rd hx4.rd).mono ?_
      rintro e w5 ⟨rfl, rfl⟩
      rw [beq_self_eq_true]
      go_wp2_with fail
      refine (same_any rv _ (Knot.rest l) (Knot.rest l) _ (hr3.below hb4).rd hm4.rd).mono ?_
      rintro e w5 ⟨rfl, rfl⟩
      rw [beq_self_eq_true]
      go_wp2_with fail
      refine (kept_any qv _ l _ _ hsp4 (hrd.below hA4) (by have := hsm.out; omega)).mono ?_
      rintro e w5 ⟨rfl, rfl⟩
      go_wp2_with fail
      refine (untie_any qv l _ hsp4.rd (by have := hsm.out; omega)).mono ?_
      rintro e w6 ⟨uv, rfl, hu6, hb6⟩
      rw [hue.out]
      rw [hut.out] at hu6
      have hA6 := hA4.trans (hb6.mono hA4.size)
      go_wp2_with fail
      rw [htx.out] at hx4
      refine (same_any uv xv [] [] _ hu6.rd (hx4.below hb6).rd).mono ?_
      rintro e w7 ⟨rfl, rfl⟩
      rw [beq_self_eq_true]
      go_wp2_with fail
      refine (kept_any qv _ l _ _ (hsp4.below hb6) (hrd.below hA6) (by have := hsm.out; omega)).mono ?_
      rintro e w8 ⟨rfl, rfl⟩
      go_wp2
      go_ret
      exact ⟨rfl, hA6⟩

/-! ### THE ROW's STEP: WRITTEN OUT: LEAVE IT -/
set_option maxRecDepth 100000 in
theorem lifted (os : Os) (started : os.Started) (H : Type) (enc : TypeId × Value → H) :
    ReturnsInHanded {} Try.checked os 11 .any (Rows.knotReadsSpec.pre6 enc Try.prog Try.f11 Rows.knotReadsRow.domain false) (Rows.knotReadsSpec.post enc Try.prog Try.f11 false true false false) := by
  refine returnsInHanded_of_change (C := Try.checked) own started (by kernel_rfl) Try.func11
    (ChangeSpec.witness6 (enc := enc) (C := Try.checked) false ⟨#[], #[.slice none 0 0], []⟩ 8 (by kernel_rfl) (by kernel_rfl) (by kernel_rfl) (by kernel_rfl)) ?_
  intro W base args ds gs before hval0 hW hcnd _
  have hval : ∀ (j : Nat) t v, Try.f11.params[j]? = some t → args[j]? = some v → Value.okWide Try.prog W .any base t v := hval0
  have hW' := hW
  obtain ⟨p, q, hA0, hV, rfl, hfz, hnd⟩ := hW
  have hA : DataW.TrodAll enc Try.prog W 0 (fun _ => true) true Try.f11.params.toList args.toList ds p := hA0
  rw [Try.params11] at hA hval
  obtain ⟨v0, vs0, d0, ds0, p0, q0, hargs, rfl, rfl, h0, r0⟩ := trodAll_cons hA
  obtain ⟨rfl, rfl, rfl⟩ := trodAll_nil r0
  obtain rfl : args = #[v0] := by cases args; simp_all
  obtain ⟨rfl, rfl⟩ := trodVars_none hV
  obtain ⟨a0, len0, cap0, rfl⟩ := okWide_slice Try.underlying23 (hval 0 23 v0 rfl rfl)
  have k0 := h0
  have lt0 : ∀ x ∈ p0, x.block < W.heap.size := by obtain ⟨m, hm⟩ := k0; exact DataW.trod_lt m _ _ _ hm
  obtain ⟨z0, w0⟩ : ∃ zs, IsRow .u8 W a0 len0 cap0 zs := by
    obtain ⟨fuel, hf⟩ := h0
    rcases open_ints Try.underlying23 Try.underlying5 (by kernel_rfl) hf with ⟨hcs, _⟩ | ⟨x, l, c, zs, hcs, _, hl, hm, hz, _, hcell, hwz⟩
    · simp [Value.cells] at hcs
      obtain ⟨rfl, rfl, rfl⟩ := hcs
      exact ⟨[], .inl ⟨rfl, rfl, rfl, rfl⟩⟩
    · simp [Value.cells] at hcs
      obtain ⟨rfl, rfl, rfl⟩ := hcs
      exact ⟨zs, .inr ⟨_, rfl, hl, hm, by simpa using hz, hcell, hwz⟩⟩
  clear hA0 hval0
  refine (walk a0 len0 cap0 z0 W w0).mono fun e W' ⟨he, bel⟩ => ?_
  subst he
  exact ⟨_, rfl, _, _, _, [], _, [], hW', trodAll_mk1 (shut_bool Try.underlying4 _), (trodAll_cons_mk (Below.trod laidOut (by kernel_rfl) (of_decide_eq_true (by kernel_rfl)) k0 bel lt0) trodAll_mk0), rfl, bel.frame _, fun h => by cases h⟩

theorem over : Rows.knotReadsRow.holds Try.pinned (OpenSpec.ofChange Rows.knotReadsSpec) :=
  OpenClaim.holds_of_wide 11 Try.f11 rfl rfl rfl rfl rfl rfl rfl ⟨rfl, rfl, rfl, rfl, rfl⟩ rfl rfl rfl rfl rfl (by kernel_rfl) Try.func11 (by kernel_rfl)
    (of_decide_eq_true (by kernel_rfl)) (by unfold Func.isWrapper; first | (rw [if_pos (by decide +kernel)]; kernel_rfl) | (rw [if_neg (by decide +kernel)]; exact ⟨rfl, rfl⟩))
    (fun os started H enc _ => lifted os started H enc)

/-- ████ THE STATEMENT ████ -/
theorem knotReads_holds : Rows.KnotReadsSaid := over
#print axioms knotReads_holds
end Go.Proofs.Ytoglhleljknhcaa.knotReads
