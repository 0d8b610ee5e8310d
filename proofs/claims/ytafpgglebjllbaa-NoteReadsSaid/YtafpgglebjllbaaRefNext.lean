/-
  quadrilleref02.Next: its contract.
-/
import Derived.Test.YtafpgglebjllbaaRefTie
import Derived.Test.YtafpgglebjllbaaKnotR
import Derived.Test.YtafpgglebjllbaaSame
import Derived.Deep.RegionLaw
namespace Go.Proofs.Ytafpgglebjllbaa
open Go.RowKit

theorem refsize_val (x0 x1 : UInt8) : wrap64 (wrap64 (x0.toNat : Int) + wrap64 (256 * wrap64 (x1.toNat : Int))) = ((x0.toNat + 256 * x1.toNat : Nat) : Int) := by
  have h0 : x0.toNat < 256 := x0.toNat_lt
  have h1 : x1.toNat < 256 := x1.toNat_lt
  rw [IntWalk.wrap64_in (x0.toNat : Int) ⟨by omega, by omega⟩, IntWalk.wrap64_in (x1.toNat : Int) ⟨by omega, by omega⟩, IntWalk.wrap64_in (256 * (x1.toNat : Int)) ⟨by omega, by omega⟩, IntWalk.wrap64_in _ ⟨by omega, by omega⟩]
  omega

set_option maxHeartbeats 1000000 in
theorem refnext_some (b off cap : Nat) (l : List UInt8) (w : World) (h2 : 2 ≤ l.length) (hll : l.length ≤ 1000000) (hcap : l.length ≤ cap) (hcm : cap ≤ 9223372036854775807)
    (hc : ∀ j, j < l.length → w.cell? ⟨b, off + j, none⟩ = some (bv (l.getD j 0))) :
    Calls Try.prog 73 #[.slice (some ⟨b, off, none⟩) l.length cap] w fun e w' => ∃ tv rv, e = .returned (.tuple #[tv, rv, .int .i64 (Knot.err l)]) ∧ Own w' w.heap.size tv (Knot.text l) ∧ Own w' w.heap.size rv (Knot.rest l) ∧ Below w.heap.size w w' := by
  have h0c := hc 0 (by omega)
  have h1c := hc 1 (by omega)
  obtain ⟨x0, hx0⟩ : ∃ x, x = l.getD 0 0 := ⟨_, rfl⟩
  obtain ⟨x1, hx1⟩ : ∃ x, x = l.getD 1 0 := ⟨_, rfl⟩
  rw [bv_eq, ← hx0, Nat.add_zero] at h0c
  rw [bv_eq, ← hx1] at h1c
  have HC := hid hc
  have hE := refsize_val x0 x1
  obtain ⟨s, hs⟩ : ∃ s, s = x0.toNat + 256 * x1.toNat := ⟨_, rfl⟩
  have hs2 : s = Knot.size l := by rw [hs, hx0, hx1]; rfl
  have hsb : s < 65536 := by have := x0.toNat_lt; have := x1.toNat_lt; omega
  rw [← hs] at hE
  have HS := hid hs2
  clear hx0 hx1 hc hs hs2
  have hl0 : 0 < l.length := by omega
  have hl1 : 1 < l.length := by omega
  have hl2 : ¬ l.length < 2 := by omega
  by_cases c1 : 2048 < s
  · have he : Knot.err l = 3 := by unfold Knot.err; rw [if_neg (by omega), ← HS.out, if_pos c1]
    have ht : Knot.text l = [] := by unfold Knot.text; rw [he]; rfl
    have hr : Knot.rest l = [] := by unfold Knot.rest; rw [he]; rfl
    rw [he, ht, hr]
    go_enter Try.func73, Try.ntmps73
    go_wp2
    go_quiet (fail)
    go_wp2_with fail
    go_ret3
    exact ⟨_, _, rfl, Own.nil _ _, Own.nil _ _, below_ahead (Below.refl _ _)⟩
  · by_cases c2 : l.length < s + 6
    · have he : Knot.err l = 2 := by unfold Knot.err; rw [if_neg (by omega), ← HS.out, if_neg c1, if_pos c2]
      have ht : Knot.text l = [] := by unfold Knot.text; rw [he]; rfl
      have hr : Knot.rest l = [] := by unfold Knot.rest; rw [he]; rfl
      rw [he, ht, hr]
      go_enter Try.func73, Try.ntmps73
      go_wp2
      go_quiet (fail)
      go_wp2_with fail
      go_ret3
      exact ⟨_, _, rfl, Own.nil _ _, Own.nil _ _, below_ahead (Below.refl _ _)⟩
    · have hs6 : s + 6 ≤ l.length := by omega
      have r1 : Rd w (.slice (some ⟨b, off + 2, none⟩) s (cap - 2)) ((l.drop 2).take s) := Rd.part hcap hcm HC.out 2 s (off + 2) (cap - 2) (by omega) rfl rfl
      have r2 : Rd w (.slice (some ⟨b, off, none⟩) (s + 6) cap) (l.take (s + 6)) := by
        have := Rd.part hcap hcm HC.out 0 (s + 6) off cap (by omega) rfl rfl
        simpa using this
      have hlen : ((l.drop 2).take s).length = s := by simp; omega
      have hkf := Knot.knot_front l (by rw [← HS.out]; exact hs6)
      rw [← HS.out] at hkf
      have HKF := hid hkf
      have HLEN := hid hlen
      have R1 := hid r1
      have R2 := hid r2
      clear hkf hlen r1 r2
      have g8 : ¬ cap = 2 := by omega
      go_enter Try.func73, Try.ntmps73
      go_wp2
      go_quiet (fail)
      go_wp2_with fail
      refine (reftie_any _ _ _ (R1.out.drewN _) (by rw [HLEN.out]; omega)).mono ?_
      rintro e w1 ⟨kv, rfl, hk, hb1⟩
      have hb1' : Below w.heap.size w w1 := below_ahead hb1
      go_wp2_with fail
      refine (same_any _ _ _ _ _ hk.rd (R2.out.below hb1')).mono ?_
      rintro e w2 ⟨rfl, rfl⟩
      rw [HKF.out]
      by_cases c3 : Crc.sum (l.take (s + 2)) = Knot.num (l.drop (s + 2)) 4
      · have he : Knot.err l = 0 := by unfold Knot.err; rw [if_neg (by omega), ← HS.out, if_neg c1, if_neg c2, if_neg (by simpa using c3)]
        have ht : Knot.text l = (l.drop 2).take s := by unfold Knot.text; rw [he, ← HS.out]; rfl
        have hr : Knot.rest l = l.drop (s + 6) := by unfold Knot.rest; rw [he, ← HS.out]; rfl
        rw [decide_eq_true c3]
        have HE := hid he
        have HT := hid ht
        have HR := hid hr
        clear c3 he ht hr
        have f1 : (0 : Int) ≤ (s : Int) + 2 := by omega
        have f2 : (s : Int) + 2 ≤ (cap : Int) := by omega
        have f4 : ((s : Int) + 2).toNat = s + 2 := by omega
        have f5 : s + 2 ≤ cap := by omega
        have f6 : (2 : Int) ≤ (s : Int) + 2 := by omega
        have f7 : 2 ≤ s + 2 := by omega
        have k1 : (0 : Int) ≤ (s : Int) + 6 := by omega
        have k2 : (s : Int) + 6 ≤ (l.length : Int) := by omega
        have k4 : ((s : Int) + 6).toNat = s + 6 := by omega
        have k5 : s + 6 ≤ l.length := by omega
        have k6 : s + 6 ≤ cap := by omega
        have w2' : IntKind.i64.wrap ((s : Int) + 2) = (s : Int) + 2 := IntWalk.i64_in _ (by omega)
        have w6' : IntKind.i64.wrap ((s : Int) + 6) = (s : Int) + 6 := IntWalk.i64_in _ (by omega)
        have m2' : max ((s : Int) + 2) 0 = (s : Int) + 2 := by omega
        have m6' : max ((s : Int) + 6) 0 = (s : Int) + 6 := by omega
        have hE0 : (w1.alloc (.cells #[] 5)).heap[w1.heap.size]? = some (.cells #[] 5 (0, 0)) := heap_alloc_new w1 _
        have hE1 : ((w1.alloc (.cells #[] 5)).alloc (.cells #[] 5)).heap[w1.heap.size]? = some (.cells #[] 5 (0, 0)) := (Below.heap_alloc _ _ _ (by simp)).trans hE0
        have hE2 : ((w1.alloc (.cells #[] 5)).alloc (.cells #[] 5)).heap[w1.heap.size + 1]? = some (.cells #[] 5 (0, 0)) := by
          have := heap_alloc_new (w1.alloc (.cells #[] 5)) (.cells #[] 5)
          simpa using this
        have HA := hid hE0
        have HB := hid hE1
        have HC2 := hid hE2
        have I1 := hid (show Below w.heap.size w (w1.alloc (.cells #[] 5)) from hb1'.alloc hb1'.size _)
        have I2 := hid (show Below w.heap.size w ((w1.alloc (.cells #[] 5)).alloc (.cells #[] 5)) from (hb1'.alloc hb1'.size _).alloc (by have := hb1'.size; simp; omega) _)
        have R4 := hid (show ∀ o c, c = cap - (s + 6) → (l.length - (s + 6) = 0 ∨ o = off + (s + 6)) → Rd w (.slice (some ⟨b, o, none⟩) (l.length - (s + 6)) c) (l.drop (s + 6)) from by
          intro o c hcc ho
          subst hcc
          rcases ho with ho | rfl
          · rw [List.drop_eq_nil_of_le (by omega), ho]
            exact ⟨_, _, rfl, by simp, by unfold maxLen; omega, (fun h => by cases h), fun _ _ j hj => by cases hj⟩
          · have := Rd.part hcap hcm HC.out (s + 6) (l.length - (s + 6)) (off + (s + 6)) (cap - (s + 6)) (by omega) rfl rfl
            rwa [List.take_of_length_le (by simp)] at this)
        clear hE0 hE1 hE2
        by_cases c4 : cap = s + 6
        · have R1b : Rd w (.slice (some ⟨b, off + 2, none⟩) s (s + 4)) ((l.drop 2).take s) := by
            have := R1.out
            rw [c4] at this
            exact this
          have R1c := hid R1b
          have R4b : Rd w (.slice (some ⟨b, off, none⟩) 0 0) (l.drop (s + 6)) := by
            have h0 : l.length - (s + 6) = 0 := by omega
            have := R4.out off 0 (by omega) (Or.inl h0)
            rwa [h0] at this
          have R4c := hid R4b
          clear R1b R4b
          subst c4
          go_wp2_with fail
          go_region_law ((first
            | (first
              | refine step_fresh rfl (.tmp 43) (.tmp 47) rfl w (w1.heap.size) (.slice (some ⟨b, off + 2, none⟩) s (s + 4)) ((l.drop 2).take s) rfl rfl HA.out (by have := hb1'.size; omega) I1.out.drew R1c.out (by rw [HLEN.out]; omega) ?_
              | refine step_fresh rfl (.tmp 43) (.tmp 47) rfl w (w1.heap.size) (.slice (some ⟨b, off + 2, none⟩) s (s + 4)) ((l.drop 2).take s) rfl rfl HB.out (by have := hb1'.size; omega) I2.out.drew R1c.out (by rw [HLEN.out]; omega) ?_
              | refine step_fresh rfl (.tmp 43) (.tmp 47) rfl w (w1.heap.size + 1) (.slice (some ⟨b, off + 2, none⟩) s (s + 4)) ((l.drop 2).take s) rfl rfl HC2.out (by have := hb1'.size; omega) I2.out.drew R1c.out (by rw [HLEN.out]; omega) ?_); intro v1 w2 ho1 hk1 hi1
            | (first
              | refine step_fresh rfl (.tmp 49) (.tmp 53) rfl w (w1.heap.size + 1) (.slice (some ⟨b, off, none⟩) 0 0) (l.drop (s + 6)) rfl rfl ((hk1.block (w1.heap.size + 1) (by simp)).trans HC2.out) (by have := hb1'.size; have := hi1.size; omega) hi1 R4c.out (by simp; omega) ?_
              | refine step_fresh rfl (.tmp 49) (.tmp 53) rfl w (w1.heap.size) (.slice (some ⟨b, off, none⟩) 0 0) (l.drop (s + 6)) rfl rfl ((hk1.block w1.heap.size (by simp; omega)).trans HB.out) (by have := hb1'.size; have := hi1.size; omega) hi1 R4c.out (by simp; omega) ?_
              | refine step_fresh rfl (.tmp 49) (.tmp 53) rfl w (w2.heap.size) (.slice (some ⟨b, off, none⟩) 0 0) (l.drop (s + 6)) rfl rfl (heap_alloc_new w2 _) (by have := hb1'.size; have := hi1.size; omega) (hi1.alloc hi1.size _) R4c.out (by simp; omega) ?_); intro v2 w3 ho2 hk2 hi2))
          all_goals go_wp2_with fail
          all_goals go_ret3
          all_goals exact ⟨v1, v2, by rw [HE.out]; rfl, by rw [HT.out]; first | exact ho1.below hk2 | exact (ho1.alloc _).below hk2, by rw [HR.out]; exact ho2, hi2⟩
        · go_wp2_with fail
          go_region_law ((first
            | (first
              | refine step_fresh rfl (.tmp 43) (.tmp 47) rfl w (w1.heap.size) (.slice (some ⟨b, off + 2, none⟩) s (cap - 2)) ((l.drop 2).take s) rfl rfl HA.out (by have := hb1'.size; omega) I1.out.drew R1.out (by rw [HLEN.out]; omega) ?_
              | refine step_fresh rfl (.tmp 43) (.tmp 47) rfl w (w1.heap.size) (.slice (some ⟨b, off + 2, none⟩) s (cap - 2)) ((l.drop 2).take s) rfl rfl HB.out (by have := hb1'.size; omega) I2.out.drew R1.out (by rw [HLEN.out]; omega) ?_
              | refine step_fresh rfl (.tmp 43) (.tmp 47) rfl w (w1.heap.size + 1) (.slice (some ⟨b, off + 2, none⟩) s (cap - 2)) ((l.drop 2).take s) rfl rfl HC2.out (by have := hb1'.size; omega) I2.out.drew R1.out (by rw [HLEN.out]; omega) ?_); intro v1 w2 ho1 hk1 hi1
            | (first
              | refine step_fresh rfl (.tmp 49) (.tmp 53) rfl w (w1.heap.size + 1) (.slice (some ⟨b, off + (s + 6), none⟩) (l.length - (s + 6)) (cap - (s + 6))) (l.drop (s + 6)) rfl rfl ((hk1.block (w1.heap.size + 1) (by simp)).trans HC2.out) (by have := hb1'.size; have := hi1.size; omega) hi1 (R4.out _ _ rfl (Or.inr rfl)) (by simp; omega) ?_
              | refine step_fresh rfl (.tmp 49) (.tmp 53) rfl w (w1.heap.size) (.slice (some ⟨b, off + (s + 6), none⟩) (l.length - (s + 6)) (cap - (s + 6))) (l.drop (s + 6)) rfl rfl ((hk1.block w1.heap.size (by simp; omega)).trans HB.out) (by have := hb1'.size; have := hi1.size; omega) hi1 (R4.out _ _ rfl (Or.inr rfl)) (by simp; omega) ?_
              | refine step_fresh rfl (.tmp 49) (.tmp 53) rfl w (w2.heap.size) (.slice (some ⟨b, off + (s + 6), none⟩) (l.length - (s + 6)) (cap - (s + 6))) (l.drop (s + 6)) rfl rfl (heap_alloc_new w2 _) (by have := hb1'.size; have := hi1.size; omega) (hi1.alloc hi1.size _) (R4.out _ _ rfl (Or.inr rfl)) (by simp; omega) ?_); intro v2 w3 ho2 hk2 hi2))
          all_goals go_wp2_with fail
          all_goals go_ret3
          all_goals exact ⟨v1, v2, by rw [HE.out]; rfl, by rw [HT.out]; first | exact ho1.below hk2 | exact (ho1.alloc _).below hk2, by rw [HR.out]; exact ho2, hi2⟩
      · have he : Knot.err l = 5 := by unfold Knot.err; rw [if_neg (by omega), ← HS.out, if_neg c1, if_neg c2, if_pos c3]
        have ht : Knot.text l = [] := by unfold Knot.text; rw [he]; rfl
        have hr : Knot.rest l = [] := by unfold Knot.rest; rw [he]; rfl
        rw [decide_eq_false c3]
        have HE := hid he
        have HT := hid ht
        have HR := hid hr
        clear c3 he ht hr
        go_wp2_with fail
        go_ret3
        refine ⟨_, _, by rw [HE.out]; rfl, by rw [HT.out]; exact Own.nil _ _, by rw [HR.out]; exact Own.nil _ _, hb1'⟩

set_option maxHeartbeats 400000 in
theorem refnext_short (a : Option Addr) (cap : Nat) (l : List UInt8) (w : World) (h2 : l.length < 2) :
    Calls Try.prog 73 #[.slice a l.length cap] w fun e w' => e = .returned (.tuple #[.slice none 0 0, .slice none 0 0, .int .i64 2]) ∧ w = w' := by
  have h2' : (l.length : Int) < 2 := by omega
  go_enter Try.func73, Try.ntmps73
  go_wp2
  go_ret3
  exact ⟨rfl, rfl⟩

/-- THE CONTRACT of the document's own Next. -/
theorem refnext_any (v : Value) (l : List UInt8) (w : World) (h : Rd w v l) (hl : l.length ≤ 1000000) :
    Calls Try.prog 73 #[v] w fun e w' => ∃ tv rv, e = .returned (.tuple #[tv, rv, .int .i64 (Knot.err l)]) ∧ Own w' w.heap.size tv (Knot.text l) ∧ Own w' w.heap.size rv (Knot.rest l) ∧ Below w.heap.size w w' := by
  by_cases h2 : 2 ≤ l.length
  · obtain ⟨b, off, cap, rfl, h1, hm, _, hc⟩ := h.pos (by omega)
    unfold maxLen at hm
    exact refnext_some b off cap l w h2 hl h1 (by omega) hc
  · obtain ⟨a, cap, rfl, _⟩ := h
    have he : Knot.err l = 2 := by unfold Knot.err; rw [if_pos (by omega)]
    have ht : Knot.text l = [] := by unfold Knot.text; rw [he]; rfl
    have hr : Knot.rest l = [] := by unfold Knot.rest; rw [he]; rfl
    rw [he, ht, hr]
    refine (refnext_short a cap l w (by omega)).mono ?_
    rintro e w' ⟨rfl, rfl⟩
    exact ⟨_, _, rfl, Own.nil _ _, Own.nil _ _, Below.refl _ _⟩

end Go.Proofs.Ytafpgglebjllbaa
