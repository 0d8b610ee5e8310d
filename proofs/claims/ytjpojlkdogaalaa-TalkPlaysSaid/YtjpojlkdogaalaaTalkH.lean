/-
  Layer 10: Say that is refused; Hear: contracts.
-/
import Derived.Test.YtjpojlkdogaalaaTalkG
import Derived.Deep.Cut
import Derived.Deep.CutRange
import Derived.Deep.CutBlock
namespace Go.Proofs.Ytjpojlkdogaalaa
open Go.RowKit
set_option linter.unusedVariables false
set_option linter.unusedSimpArgs false

set_option maxHeartbeats 2000000 in
theorem say_long (base : B9) (b : Nat) (s : Tk) (va : Option Addr) (vn vc : Nat) (w : World) (ht : 1984 < vn) :
    Calls Try.prog 12 #[.pointer (some ⟨b, 0, none⟩), .slice va vn vc] w fun e w' => e = .returned (.tuple #[.agg #[.int .u8 0, .int .u32 0, .int .u32 0, .int .u32 0, .int .u32 0, .bool false, .slice none 0 0], .int .i64 3]) ∧ Below w.heap.size w w' := by
  obtain ⟨w1, hw1⟩ : ∃ w1, w1 = w.alloc (.cells #[.int .u8 0, .int .u32 0, .int .u32 0, .int .u32 0, .int .u32 0, .bool false, .slice none 0 0] 31) := ⟨_, rfl⟩
  obtain ⟨g1, hb1, _⟩ := box_facts _ _ _ _ _ _ _ _ w1 hw1
  have HG := hid (show PkB (w.alloc (.cells #[.int .u8 0, .int .u32 0, .int .u32 0, .int .u32 0, .int .u32 0, .bool false, .slice none 0 0] 31)) w.heap.size by rw [← hw1]; exact ⟨_, _, _, _, _, _, _, g1⟩)
  have HB := hid hb1
  have HW := hid hw1
  have htl : (1984 : Int) < (vn : Int) := by omega
  clear g1 hb1 hw1 ht
  go_enter Try.func12, Try.ntmps12
  go_wp2_with (first | (refine pk_st rfl (.tmp 4) (.tmp 14) rfl w.heap.size (.int .u8 0) (.int .u32 0) (.int .u32 0) (.int .u32 0) (.int .u32 0) (.bool false) (.slice none 0 0) rfl rfl HG.out (by simp [Value.oneCell']) ?_) | fail)
  refine bodyPost_ret (results_pk2 rfl _ _ _ w.heap.size _ _ _ _ _ _ _ rfl rfl (HG.out.row _ _ _ _ _ _ _)) rfl ⟨rfl, ?_⟩
  rw [← HW.out]
  exact HB.out.trans ((setRow_below _ (Nat.le_refl _)))

set_option maxHeartbeats 2000000 in
theorem say_full (base : B9) (b : Nat) (s : Tk) (va : Option Addr) (vn vc : Nat) (w : World) (h : TkAt w base b s) (ht : vn ≤ 1984) (hf : 256 ≤ s.l.length) :
    Calls Try.prog 12 #[.pointer (some ⟨b, 0, none⟩), .slice va vn vc] w fun e w' => e = .returned (.tuple #[.agg #[.int .u8 0, .int .u32 0, .int .u32 0, .int .u32 0, .int .u32 0, .bool false, .slice none 0 0], .int .i64 8]) ∧ Below w.heap.size w w' := by
  obtain ⟨fv, PF, hh⟩ := h
  obtain ⟨fa, fc, efv, hc1, hc2⟩ := hh.shape
  subst efv
  obtain ⟨w1, hw1⟩ : ∃ w1, w1 = w.alloc (.cells #[.int .u8 0, .int .u32 0, .int .u32 0, .int .u32 0, .int .u32 0, .bool false, .slice none 0 0] 31) := ⟨_, rfl⟩
  obtain ⟨g1, hb1, _⟩ := box_facts _ _ _ _ _ _ _ _ w1 hw1
  obtain ⟨c0, c1, c2, c3, c4, c5, c6, hfz⟩ := (hh.below hb1).cells
  rw [hw1] at c4 c5
  have HG := hid (show PkB (w.alloc (.cells #[.int .u8 0, .int .u32 0, .int .u32 0, .int .u32 0, .int .u32 0, .bool false, .slice none 0 0] 31)) w.heap.size by rw [← hw1]; exact ⟨_, _, _, _, _, _, _, g1⟩)
  have HB := hid hb1
  have HW := hid hw1
  have htl : ¬ (1984 : Int) < (vn : Int) := by omega
  have hfl : (256 : Int) ≤ (s.l.length : Int) := by omega
  clear g1 hb1 hw1 ht hfz hf hh c0 c1 c2 c3 c6
  go_enter Try.func12, Try.ntmps12
  go_wp2_with (first | (refine pk_st rfl (.tmp 4) (.tmp 29) rfl w.heap.size (.int .u8 0) (.int .u32 0) (.int .u32 0) (.int .u32 0) (.int .u32 0) (.bool false) (.slice none 0 0) rfl rfl HG.out (by simp [Value.oneCell']) ?_) | fail)
  refine bodyPost_ret (results_pk2 rfl _ _ _ w.heap.size _ _ _ _ _ _ _ rfl rfl (HG.out.row _ _ _ _ _ _ _)) rfl ⟨rfl, ?_⟩
  rw [← HW.out]
  exact HB.out.trans ((setRow_below _ (Nat.le_refl _)))

set_option maxHeartbeats 2000000 in
theorem say_nil (va : Option Addr) (vn vc : Nat) (w : World) :
    Calls Try.prog 12 #[.pointer none, .slice va vn vc] w fun e w' => e = .returned (.tuple #[.agg #[.int .u8 0, .int .u32 0, .int .u32 0, .int .u32 0, .int .u32 0, .bool false, .slice none 0 0], .int .i64 6]) ∧ Below w.heap.size w w' := by
  obtain ⟨w1, hw1⟩ : ∃ w1, w1 = w.alloc (.cells #[.int .u8 0, .int .u32 0, .int .u32 0, .int .u32 0, .int .u32 0, .bool false, .slice none 0 0] 31) := ⟨_, rfl⟩
  obtain ⟨g1, hb1, _⟩ := box_facts _ _ _ _ _ _ _ _ w1 hw1
  have HG := hid (show PkB (w.alloc (.cells #[.int .u8 0, .int .u32 0, .int .u32 0, .int .u32 0, .int .u32 0, .bool false, .slice none 0 0] 31)) w.heap.size by rw [← hw1]; exact ⟨_, _, _, _, _, _, _, g1⟩)
  have HB := hid hb1
  have HW := hid hw1
  clear g1 hb1 hw1
  go_enter Try.func12, Try.ntmps12
  go_wp2_with (first | (refine pk_st rfl (.tmp 4) (.tmp 9) rfl w.heap.size (.int .u8 0) (.int .u32 0) (.int .u32 0) (.int .u32 0) (.int .u32 0) (.bool false) (.slice none 0 0) rfl rfl HG.out (by simp [Value.oneCell']) ?_) | fail)
  refine bodyPost_ret (results_pk2 rfl _ _ _ w.heap.size _ _ _ _ _ _ _ rfl rfl (HG.out.row _ _ _ _ _ _ _)) rfl ⟨rfl, ?_⟩
  rw [← HW.out]
  exact HB.out.trans ((setRow_below _ (Nat.le_refl _)))

end Go.Proofs.Ytjpojlkdogaalaa
