/-
  Layer 10: Mine, settle: contracts.
-/
import Derived.Test.YtjpojlkdogaalaaTalkD
namespace Go.Proofs.Ytjpojlkdogaalaa
open Go.RowKit
set_option linter.unusedVariables false

theorem below_behind {B : Nat} {w w' : World} (h : Below B w w') (n : Nat) : Below B w (w'.drewN n) := ⟨h.os, h.tape, h.output, h.size, h.block⟩

theorem box_facts (w : World) (c0 c1 c2 c3 c4 c5 c6 : Value) : ∀ w1, w1 = w.alloc (.cells #[c0, c1, c2, c3, c4, c5, c6] 31) → w1.heap[w.heap.size]? = some (.cells #[c0, c1, c2, c3, c4, c5, c6] 31 (0, 0)) ∧ Below w.heap.size w w1 ∧ w1.cell? ⟨w.heap.size, 0, none⟩ = some c0 ∧ w1.cell? ⟨w.heap.size, 1, none⟩ = some c1 ∧ w1.cell? ⟨w.heap.size, 2, none⟩ = some c2 ∧ w1.cell? ⟨w.heap.size, 3, none⟩ = some c3 ∧ w1.cell? ⟨w.heap.size, 4, none⟩ = some c4 ∧ w1.cell? ⟨w.heap.size, 5, none⟩ = some c5 ∧ w1.cell? ⟨w.heap.size, 6, none⟩ = some c6 := by
  rintro w1 rfl
  have g := heap_alloc_new w (.cells #[c0, c1, c2, c3, c4, c5, c6] 31)
  exact ⟨g, (Below.refl _ _).alloc (Nat.le_refl _) _, (cell_of_row _ _ _ _ _ _ g).trans rfl, (cell_of_row _ _ _ _ _ _ g).trans rfl, (cell_of_row _ _ _ _ _ _ g).trans rfl, (cell_of_row _ _ _ _ _ _ g).trans rfl, (cell_of_row _ _ _ _ _ _ g).trans rfl, (cell_of_row _ _ _ _ _ _ g).trans rfl, (cell_of_row _ _ _ _ _ _ g).trans rfl⟩

set_option maxHeartbeats 4000000 in
theorem mine_any (base : B9) (b : Nat) (s : Tk) (k : Pk) (va : Option Addr) (vn vc : Nat) (w : World) (h : TkAt w base b s) :
    Calls Try.prog 19 #[.pointer (some ⟨b, 0, none⟩), .agg #[.int .u8 k.node, .int .u32 k.epoch, .int .u32 k.life, .int .u32 (k.seq : Int), .int .u32 (k.ack : Int), .bool k.plain, .slice va vn vc]] w fun e w' => e = .returned (.bool (s.mine k)) ∧ Below w.heap.size w w' := by
  obtain ⟨fv, PF, hh⟩ := h
  obtain ⟨w1, hw1⟩ : ∃ w1, w1 = w.alloc (.cells #[.int .u8 k.node, .int .u32 k.epoch, .int .u32 k.life, .int .u32 (k.seq : Int), .int .u32 (k.ack : Int), .bool k.plain, .slice va vn vc] 31) := ⟨_, rfl⟩
  obtain ⟨g1, hb1, x0, x1, x2, x3, x4, x5, x6⟩ := box_facts _ _ _ _ _ _ _ _ w1 hw1
  obtain ⟨c0, c1, c2, c3, c4, c5, c6, hf⟩ := (hh.below hb1).cells
  have HB1 := hid hb1
  have HW1 := hid hw1
  clear hf hh g1 hb1 hw1 x3 x6 c3 c5 c6
  by_cases h0 : k.node = s.node
  · have e0 : (k.node == s.node) = true := by rw [beq_iff_eq]; exact h0
    by_cases h1 : k.epoch = s.epoch
    · have e1 : (k.epoch == s.epoch) = true := by rw [beq_iff_eq]; exact h1
      by_cases h2 : k.life = s.life
      · have e2 : (k.life == s.life) = true := by rw [beq_iff_eq]; exact h2
        by_cases h3 : k.plain = true
        · have HM := hid (show s.mine k = false by unfold Tk.mine; simp [h3])
          have HP := hid h3
          clear h0 h1 h2 h3
          go_enter Try.func19, Try.ntmps19
          go_wp2_with fail
          rw [← HW1.out]
          rw [HP.out] at x5
          go_quiet (fail)
          go_wp2
          go_ret
          exact ⟨by rw [HM.out]; first | rfl | (simp; omega), below_behind HB1.out _⟩
        · have h3' : k.plain = false := by simpa using h3
          have HP := hid h3'
          by_cases h4 : k.ack ≤ s.all.length
          · have e4 : (k.ack : Int) ≤ (s.all.length : Int) := by omega
            have HM := hid (show s.mine k = true by unfold Tk.mine; simp [h0, h1, h2, h3', h4])
            clear h0 h1 h2 h3 h3' h4
            go_enter Try.func19, Try.ntmps19
            go_wp2_with fail
            rw [← HW1.out]
            rw [HP.out] at x5
            go_quiet (fail)
            go_wp2
            go_ret
            exact ⟨by rw [HM.out]; first | rfl | (simp; omega), below_behind HB1.out _⟩
          · have e4 : ¬ (k.ack : Int) ≤ (s.all.length : Int) := by omega
            have HM := hid (show s.mine k = false by unfold Tk.mine; simp [h4])
            clear h0 h1 h2 h3 h3' h4
            go_enter Try.func19, Try.ntmps19
            go_wp2_with fail
            rw [← HW1.out]
            rw [HP.out] at x5
            go_quiet (fail)
            go_wp2
            go_ret
            exact ⟨by rw [HM.out]; first | rfl | (simp; omega), below_behind HB1.out _⟩
      · have e2 : (k.life == s.life) = false := by rw [beq_eq_false_iff_ne]; exact h2
        have HM := hid (show s.mine k = false by unfold Tk.mine; simp [h2])
        clear h0 h1 h2
        go_enter Try.func19, Try.ntmps19
        go_wp2_with fail
        rw [← HW1.out]
        go_quiet (fail)
        go_wp2
        go_ret
        exact ⟨by rw [HM.out]; first | rfl | (simp; omega), below_behind HB1.out _⟩
    · have e1 : (k.epoch == s.epoch) = false := by rw [beq_eq_false_iff_ne]; exact h1
      have HM := hid (show s.mine k = false by unfold Tk.mine; simp [h1])
      clear h0 h1
      go_enter Try.func19, Try.ntmps19
      go_wp2_with fail
      rw [← HW1.out]
      go_quiet (fail)
      go_wp2
      go_ret
      exact ⟨by rw [HM.out]; first | rfl | (simp; omega), below_behind HB1.out _⟩
  · have e0 : (k.node == s.node) = false := by rw [beq_eq_false_iff_ne]; exact h0
    have HM := hid (show s.mine k = false by unfold Tk.mine; simp [h0])
    clear h0
    go_enter Try.func19, Try.ntmps19
    go_wp2_with fail
    rw [← HW1.out]
    go_quiet (fail)
    go_wp2
    go_ret
    exact ⟨by rw [HM.out]; first | rfl | (simp; omega), below_behind HB1.out _⟩

theorem mine_nil (k : Pk) (va : Option Addr) (vn vc : Nat) (w : World) :
    Calls Try.prog 19 #[.pointer none, .agg #[.int .u8 k.node, .int .u32 k.epoch, .int .u32 k.life, .int .u32 (k.seq : Int), .int .u32 (k.ack : Int), .bool k.plain, .slice va vn vc]] w fun e w' => e = .returned (.bool false) ∧ Below w.heap.size w w' := by
  go_enter Try.func19, Try.ntmps19
  go_wp2_with fail
  go_quiet (fail)
  go_wp2
  go_ret
  exact ⟨rfl, below_behind ((Below.refl _ _).alloc (Nat.le_refl _) _) _⟩

end Go.Proofs.Ytjpojlkdogaalaa
