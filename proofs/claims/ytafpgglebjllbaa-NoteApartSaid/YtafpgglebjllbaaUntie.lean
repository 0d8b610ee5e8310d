/-
  knot.Untie, knot.Next, knot.Tie: their contracts.
-/
import Derived.Test.YtafpgglebjllbaaSplit
import Derived.Test.YtafpgglebjllbaaClone
namespace Go.Proofs.Ytafpgglebjllbaa.Knot

def uerr (p : List UInt8) : Int := if err p ≠ 0 then err p else if rest p = [] then 0 else 4
def utext (p : List UInt8) : List UInt8 := if uerr p = 0 then text p else []

theorem text_length (p : List UInt8) : (text p).length ≤ p.length := by
  unfold text
  split
  · simp; omega
  · simp
theorem rest_length (p : List UInt8) : (rest p).length ≤ p.length := by
  unfold rest
  split
  · simp
  · simp

theorem uerr_knot (t : List UInt8) (h : t.length ≤ 2048) : uerr (knot t) = 0 := by
  have h1 := err_knot t [] h
  have h2 := rest_knot t [] h
  rw [List.append_nil] at h1 h2
  unfold uerr
  rw [h1, h2]; rfl

theorem utext_knot (t : List UInt8) (h : t.length ≤ 2048) : utext (knot t) = t := by
  have h3 := text_knot t [] h
  rw [List.append_nil] at h3
  unfold utext
  rw [uerr_knot t h, if_pos rfl, h3]

theorem uerr_cut (t : List UInt8) (k : Nat) (h : t.length ≤ 2048) (hk : k < t.length + 6) : uerr ((knot t).take k) = 2 := by
  unfold uerr
  rw [err_cut t k h hk]; rfl

end Go.Proofs.Ytafpgglebjllbaa.Knot
namespace Go.Proofs.Ytafpgglebjllbaa
open Go.RowKit

theorem below_ahead {B : Nat} {w w' : World} {n : Nat} (h : Below B (w.drewN n) w') : Below B w w' := ⟨h.os, h.tape, h.output, h.size, h.block⟩

set_option maxHeartbeats 400000 in
theorem untie_any (v : Value) (l : List UInt8) (w : World) (h : Rd w v l) (hl : l.length ≤ 140737488355328) :
    Calls Try.prog 66 #[v] w fun e w' => ∃ uv, e = .returned (.tuple #[uv, .int .i64 (Knot.uerr l)]) ∧ Own w' w.heap.size uv (Knot.utext l) ∧ Below w.heap.size w w' := by
  have hs := hid (split_any v l w h)
  have h1 := Knot.text_length l
  obtain ⟨k, hk⟩ : ∃ k, k = Knot.err l := ⟨_, rfl⟩
  have HK := hid hk
  clear h
  by_cases c1 : k = 0
  · have hq : ((k : Int) != 0) = false := by simp [c1]
    by_cases c2 : Knot.rest l = []
    · have hu : Knot.uerr l = 0 := by unfold Knot.uerr; rw [← hk, c1, c2]; rfl
      have ht : Knot.utext l = Knot.text l := by unfold Knot.utext; rw [hu]; rfl
      have hlen : (Knot.rest l).length = 0 := by rw [c2]; rfl
      rw [hu, ht]
      have HL := hid hlen
      clear c1 hk c2 hu ht hlen
      go_enter Try.func66, Try.ntmps66
      go_wp2_with fail
      refine hs.out.mono ?_
      rintro e w' ⟨tv, rv, n, rfl, ht, ⟨ra, rc, rfl, _⟩, rfl⟩
      rw [← HK.out, HL.out]
      go_wp2_with fail
      refine (clone_any tv _ _ (ht.drewN n) (by omega)).mono ?_
      rintro e w1 ⟨v1, rfl, ho1, hb1⟩
      go_wp2
      go_ret2
      exact ⟨v1, rfl, ho1, below_ahead hb1⟩
    · have hu : Knot.uerr l = 4 := by unfold Knot.uerr; rw [← hk, c1, if_neg (by simp), if_neg c2]
      have ht : Knot.utext l = [] := by unfold Knot.utext; rw [hu]; rfl
      have hlen : 0 < (Knot.rest l).length := by
        rcases Nat.eq_zero_or_pos (Knot.rest l).length with h | h
        · exact absurd (List.eq_nil_of_length_eq_zero h) c2
        · exact h
      rw [hu, ht]
      clear c1 hk c2 hu ht
      go_enter Try.func66, Try.ntmps66
      go_wp2_with fail
      refine hs.out.mono ?_
      rintro e w' ⟨tv, rv, n, rfl, ht, ⟨ra, rc, rfl, _⟩, rfl⟩
      rw [← HK.out]
      go_wp2_with fail
      go_ret2
      exact ⟨_, rfl, Own.nil _ _, (Below.refl _ _).trans ⟨rfl, rfl, rfl, Nat.le_refl _, fun _ _ => rfl⟩⟩
  · have hq : ((k : Int) != 0) = true := by simp [c1]
    have hu : Knot.uerr l = k := by unfold Knot.uerr; rw [← hk, if_pos c1]
    have ht : Knot.utext l = [] := by unfold Knot.utext; rw [hu, if_neg c1]
    rw [hu, ht]
    clear c1 hk hu ht
    go_enter Try.func66, Try.ntmps66
    go_wp2_with fail
    refine hs.out.mono ?_
    rintro e w' ⟨tv, rv, n, rfl, ht, hr, rfl⟩
    rw [← HK.out]
    go_wp2_with fail
    go_ret2
    exact ⟨_, rfl, Own.nil _ _, (Below.refl _ _).trans ⟨rfl, rfl, rfl, Nat.le_refl _, fun _ _ => rfl⟩⟩

end Go.Proofs.Ytafpgglebjllbaa
