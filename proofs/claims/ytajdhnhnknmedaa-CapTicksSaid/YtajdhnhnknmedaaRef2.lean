/-
  The document's Overlap: its contract.
-/
import Derived.Test.YtajdhnhnknmedaaRow2
namespace Go.Proofs.Ytajdhnhnknmedaa.Cap

theorem first_go (l : List (Nat × Nat)) (k : Nat) (h : k < l.length) : first (l.take (max (k + 1) 1)) = max (first (l.take (max k 1))) (l.getD k (0, 0)).1 := by
  rw [show max (k + 1) 1 = k + 1 by omega, first_take_succ l k h]
  by_cases c : k = 0
  · subst c
    rw [show max 0 1 = 1 by rfl, first_one l h, List.take_zero]
    simp [first]
  · rw [show max k 1 = k by omega]
theorem last_go (l : List (Nat × Nat)) (hf : fits l) (k : Nat) (h : k < l.length) : last (l.take (max (k + 1) 1)) = min (last (l.take (max k 1))) (l.getD k (0, 0)).2 := by
  rw [show max (k + 1) 1 = k + 1 by omega, last_take_succ l k h]
  by_cases c : k = 0
  · subst c
    have := (hf 0 h).2
    rw [show max 0 1 = 1 by rfl, last_one l hf h, List.take_zero]
    show min 4294967295 _ = _
    omega
  · rw [show max k 1 = k by omega]

end Go.Proofs.Ytajdhnhnknmedaa.Cap
namespace Go.Proofs.Ytajdhnhnknmedaa
open Go.RowKit

set_option maxHeartbeats 1000000 in
theorem refoverlap_any (v : Value) (l : List (Nat × Nat)) (w : World) (h : Rd2 w v l) (hf : Cap.fits l) :
    Calls Try.prog 7 #[v] w fun e w' => e = .returned (.int .i64 (Cap.ov l : Int)) ∧ Below w.heap.size w w' := by
  by_cases h0 : 0 < l.length
  · obtain ⟨b, off, cap, rfl, hcap, hm, hb, hc⟩ := h.pos h0
    unfold maxLen at hm
    have hq : ((l.length : Int) == 0) = false := by rw [beq_eq_false_iff_ne]; omega
    obtain ⟨hc0, hc1⟩ := hc 0 h0
    have hfit := hid hf
    have h10 := hid (Cap.first_one l h0)
    have h11 := hid (Cap.last_one l hf h0)
    obtain ⟨N, hN⟩ : ∃ N, N = l.length := ⟨_, rfl⟩
    have HN := hid hN
    rw [← hN] at hcap hq h0 ⊢
    have HC := hid hc
    obtain ⟨hz0, hz1⟩ := hf 0 (by omega)
    clear hc h hN hf
    simp only [Nat.zero_mul, Nat.add_zero, Nat.zero_add] at hc0 hc1
    rw [← h10.out] at hc0 hz0
    rw [← h11.out] at hc1 hz1
    go_enter Try.func7, Try.ntmps7
    go_wp2
    go_quiet (fail)
    go_wp2
    go_loopw [3, 4, 22] (fun f t i wr => ∃ k : Nat, k ≤ N ∧ i = .int .i64 k ∧ f = .int .i64 (Cap.first (l.take (max k 1)) : Int) ∧ t = .int .i64 (Cap.last (l.take (max k 1)) : Int) ∧ Below w.heap.size w wr) (fun _ _ i _ => N - (intOf i).toNat)
    case atStart => exact ⟨0, by omega, rfl, rfl, rfl, below_behind (Below.refl _ _) _⟩
    case round =>
      obtain ⟨k, hk, rfl, rfl, rfl, hbw⟩ := hrel
      by_cases hlt : k < N
      · obtain ⟨g0, g1⟩ := HC.out k (by have := HN.out; omega)
        obtain ⟨y0, y1⟩ := hfit.out k (by have := HN.out; omega)
        have HF := hid (Cap.first_go l k (by have := HN.out; omega))
        have HL := hid (Cap.last_go l hfit.out k (by have := HN.out; omega))
        have z0 := Cap.first_take l hfit.out (max k 1) (by have := HN.out; omega)
        have z1 := Cap.last_top (l.take (max k 1))
        rw [← hbw.cell (p := ⟨b, off + k * 2, none⟩) hb] at g0
        rw [← hbw.cell (p := ⟨b, off + (k * 2 + 1), none⟩) hb] at g1
        rw [show off + (k * 2 + 1) = off + k * 2 + 1 by omega] at g1
        obtain ⟨s, hs⟩ : ∃ s, s = l.getD k (0, 0) := ⟨_, rfl⟩
        rw [← hs] at g0 g1 HF HL y0 y1
        obtain ⟨F, hF⟩ : ∃ F, F = Cap.first (l.take (max k 1)) := ⟨_, rfl⟩
        obtain ⟨L, hL⟩ : ∃ L, L = Cap.last (l.take (max k 1)) := ⟨_, rfl⟩
        rw [← hF] at HF z0 ⊢
        rw [← hL] at HL z1 ⊢
        clear hs hF hL
        obtain ⟨s1, s2⟩ := s
        simp only at g0 g1 HF HL y0 y1
        have hal : ∀ (o : Obj), Below w.heap.size w (wr.alloc o) := fun o => hbw.alloc hbw.size o
        by_cases c1 : F < s1 <;> by_cases c2 : s2 < L
        all_goals
          go_wp2
          go_roundw
          case rel => exact ⟨k + 1, hlt, by go_num, by rw [HF.out]; exact congrArg (Value.int .i64) (by omega), by rw [HL.out]; exact congrArg (Value.int .i64) (by omega), hal _⟩
          case measure => simp [intOf]; omega
      · obtain rfl : N = k := by omega
        have hall : l.take (max N 1) = l := List.take_of_length_le (by have := HN.out; omega)
        rw [hall]
        have HOV := hid (show Cap.ov l = if Cap.last l < Cap.first l then 0 else Cap.last l - Cap.first l + 1 by
          unfold Cap.ov
          rw [if_neg (by rintro rfl; have := HN.out; simp at this; omega)])
        have hb1 := Cap.last_top l
        have hb2 := Cap.first_take l hfit.out l.length (Nat.le_refl _)
        rw [List.take_length] at hb2
        obtain ⟨F, hF⟩ : ∃ F, F = Cap.first l := ⟨_, rfl⟩
        obtain ⟨L, hL⟩ : ∃ L, L = Cap.last l := ⟨_, rfl⟩
        rw [← hF] at hb2 ⊢
        rw [← hL] at hb1 ⊢
        have HF := hid hF
        have HL := hid hL
        clear hF hL hall h0 hcap hq
        by_cases c : L < F
        · have HO := hid (show Cap.ov l = 0 by rw [HOV.out, ← HL.out, ← HF.out, if_pos c])
          go_wp2
          go_ret
          rw [HO.out]
          exact ⟨rfl, hbw⟩
        · have HO := hid (show Cap.ov l = L - F + 1 by rw [HOV.out, ← HL.out, ← HF.out, if_neg c])
          have hd : 0 ≤ (L : Int) - F := by omega
          go_wp2
          go_ret
          rw [HO.out]
          exact ⟨ret_int (by omega), hbw⟩
  · have h1 : l = [] := List.eq_nil_of_length_eq_zero (by omega)
    subst h1
    obtain ⟨a, cap, rfl, _⟩ := h
    go_enter Try.func7, Try.ntmps7
    go_wp2
    go_ret
    exact ⟨rfl, Below.refl _ _⟩

/-- A new block of two stretches. -/
theorem Rd2.two (w : World) (a b c d : Nat) : Rd2 (w.alloc (.cells #[.int .u32 (a : Int), .int .u32 (b : Int), .int .u32 (c : Int), .int .u32 (d : Int)] 24)) (.slice (some ⟨w.heap.size, 0, none⟩) 2 2) [(a, b), (c, d)] := by
  refine ⟨_, 2, rfl, Nat.le_refl _, by unfold maxLen; omega, (fun h => by cases h), fun x hx j hj => ?_⟩
  cases hx
  have hj2 : j = 0 ∨ j = 1 := by simp at hj; omega
  rcases hj2 with rfl | rfl
  · constructor <;> (rw [Addr.add_lit, cell_of_row _ _ _ _ _ _ (heap_alloc_new w _)]; rfl)
  · constructor <;> (rw [Addr.add_lit, cell_of_row _ _ _ _ _ _ (heap_alloc_new w _)]; rfl)

set_option maxHeartbeats 1000000 in
theorem awake3_any (w : World) :
    Calls Try.prog 5 #[] w fun e w' => e = .returned (.bool true) ∧ Below w.heap.size w w' := by
  have e1 := hid (show Cap.sub 3 5 = 0 by decide)
  have e2 := hid (show Cap.up 7 3 = 3 by decide)
  have e3 := hid (show Cap.ov [(3, 9), (5, 12)] = 5 by decide)
  have e4 := hid (show Cap.later 4294967294 5 = 4294967295 by decide)
  go_enter Try.func5, Try.ntmps5
  go_wp2_with fail
  refine (sub_any 3 5 _).mono ?_
  rintro e w' ⟨rfl, rfl⟩
  rw [e1.out]
  go_wp2_with fail
  refine (up_any 7 3 _).mono ?_
  rintro e w' ⟨rfl, rfl⟩
  rw [e2.out]
  go_wp2_with fail
  refine (overlap_any _ [(3, 9), (5, 12)] _ (Rd2.two w 3 9 5 12) (by
    intro j hj
    have hj2 : j = 0 ∨ j = 1 := by simp at hj; omega
    rcases hj2 with rfl | rfl <;> simp)).mono ?_
  rintro e w1 ⟨rfl, hb1⟩
  rw [e3.out]
  go_wp2_with fail
  refine (later_any 4294967294 5 (by omega) (by omega) _).mono ?_
  rintro e w' ⟨rfl, rfl⟩
  rw [e4.out]
  go_wp2
  go_ret
  exact ⟨rfl, ((Below.refl _ _).alloc (Nat.le_refl _) _).trans (hb1.mono (by simp))⟩

end Go.Proofs.Ytajdhnhnknmedaa
