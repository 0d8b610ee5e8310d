/-
  Layer 10: Hear: its contracts.
-/
import Derived.Test.YtjpojlkdogaalaaTalkH
namespace Go.Proofs.Ytjpojlkdogaalaa
open Go.RowKit
set_option linter.unusedVariables false
set_option linter.unusedSimpArgs false

def Tk.hear (s : Tk) (k : Pk) : Tk := if s.mine k = false then s else if k.seq = s.heard + 1 then { s.settle k.ack with heard := s.heard + 1 } else s.settle k.ack

/-- Is it told? -/
def Tk.fresh (s : Tk) (k : Pk) : Bool := s.mine k && decide (k.seq = s.heard + 1)

/-- Is it answered? -/
def Tk.resp (s : Tk) (k : Pk) : Bool := s.mine k && decide (k.seq ≠ 0)

def Tk.gets (s : Tk) (k : Pk) : List UInt8 := if s.fresh k then k.data else []

def Tk.ans (s : Tk) (k : Pk) : Pk := if s.resp k then (s.hear k).pk 0 [] else Pk.zero

theorem Tk.mine_ack {s : Tk} {k : Pk} (h : s.mine k = true) : k.ack ≤ s.all.length := by
  unfold Tk.mine at h
  simp only [Bool.and_eq_true, decide_eq_true_eq] at h
  exact h.2

theorem Tk.hear_ok {s : Tk} {k : Pk} (h : s.ok) (hh : s.heard < 1000000) : (s.hear k).ok := by
  unfold Tk.hear
  by_cases hm : s.mine k = false
  · rw [if_pos hm]; exact h
  · rw [if_neg hm]
    have hm' : s.mine k = true := by simpa using hm
    have ho := Tk.ok_settle h k.ack (Tk.mine_ack hm')
    split
    · exact ⟨ho.1, ho.2.1, ho.2.2.1, hh, ho.2.2.2.2.1, ho.2.2.2.2.2⟩
    · exact ho

set_option maxHeartbeats 4000000 in
theorem hear_not (base : B9) (b : Nat) (s : Tk) (k : Pk) (va : Option Addr) (vc : Nat) (w : World) (h : TkAt w base b s) (hm : s.mine k = false) :
    Calls Try.prog 21 #[.pointer (some ⟨b, 0, none⟩), .agg #[.int .u8 k.node, .int .u32 k.epoch, .int .u32 k.life, .int .u32 (k.seq : Int), .int .u32 (k.ack : Int), .bool k.plain, .slice va k.data.length vc]] w fun e w' => e = .returned (.tuple #[.slice none 0 0, .bool false, .agg #[.int .u8 0, .int .u32 0, .int .u32 0, .int .u32 0, .int .u32 0, .bool false, .slice none 0 0], .bool false]) ∧ Below w.heap.size w w' := by
  obtain ⟨w1, hw1⟩ : ∃ w1, w1 = w.alloc (.cells #[.int .u8 k.node, .int .u32 k.epoch, .int .u32 k.life, .int .u32 (k.seq : Int), .int .u32 (k.ack : Int), .bool k.plain, .slice va k.data.length vc] 31) := ⟨_, rfl⟩
  obtain ⟨g1, hb1, _⟩ := box_facts _ _ _ _ _ _ _ _ w1 hw1
  obtain ⟨w2, hw2⟩ : ∃ w2, w2 = w1.alloc (.cells #[.int .u8 0, .int .u32 0, .int .u32 0, .int .u32 0, .int .u32 0, .bool false, .slice none 0 0] 31) := ⟨_, rfl⟩
  obtain ⟨g2, hb2, _⟩ := box_facts _ _ _ _ _ _ _ _ w2 hw2
  have hs1 : w1.heap.size = w.heap.size + 1 := by rw [hw1]; simp
  have hs2 : w2.heap.size = w.heap.size + 2 := by rw [hw2]; simp [hs1]
  rw [hs1] at g2
  have HG1 := hid ((hb2.block _ (by omega)).trans g1)
  have HG2 := hid (show PkB w2 (w.heap.size + 1) from ⟨_, _, _, _, _, _, _, g2⟩)
  have HB2 := hid (hb1.trans (hb2.mono (by omega)))
  have HW1 := hid hw1
  have HW2 := hid hw2
  have HS2 := hid hs2
  clear g1 g2 hb1 hb2 hw1 hw2 hs1 hs2
  have H2 := hid (h.below HB2.out)
  have HM := hid hm
  clear h hm
  go_enter Try.func21, Try.ntmps21
  go_upto_region 1 with (fail)
  rw [← HW1.out, ← HW2.out]
  go_wp2_with (first | (refine pk_ld rfl (.tmp 3) rfl w.heap.size rfl _ _ _ _ _ _ _ HG1.out ?_) | fail)
  refine (mine_any base b s k va _ vc w2 H2.out).mono ?_
  rintro e w3 ⟨rfl, hb3⟩
  rw [HM.out]
  have H3 := hid (H2.out.below hb3)
  have HB3 := hid (HB2.out.trans (hb3.mono (by have := HS2.out; omega)))
  have HP3 := hid (HG2.out.below hb3)
  have HS3 := hid (show w.heap.size + 2 ≤ w3.heap.size by have := hb3.size; have := HS2.out; omega)
  clear hb3
  go_wp2_with (first | (refine pk_st rfl (.tmp 6) (.tmp 12) rfl (w.heap.size + 1) (.int .u8 0) (.int .u32 0) (.int .u32 0) (.int .u32 0) (.int .u32 0) (.bool false) (.slice none 0 0) rfl rfl HP3.out (by simp [Value.oneCell']) ?_) | fail)
  refine bodyPost_ret (results_pk4 rfl _ _ _ _ _ (w.heap.size + 1) _ _ _ _ _ _ _ rfl rfl rfl rfl (HP3.out.row _ _ _ _ _ _ _)) rfl ⟨rfl, ?_⟩
  exact HB3.out.trans (setRow_below _ (Nat.le_succ _))

set_option maxHeartbeats 4000000 in
theorem hear_nil (k : Pk) (va : Option Addr) (vc : Nat) (w : World) :
    Calls Try.prog 21 #[.pointer none, .agg #[.int .u8 k.node, .int .u32 k.epoch, .int .u32 k.life, .int .u32 (k.seq : Int), .int .u32 (k.ack : Int), .bool k.plain, .slice va k.data.length vc]] w fun e w' => e = .returned (.tuple #[.slice none 0 0, .bool false, .agg #[.int .u8 0, .int .u32 0, .int .u32 0, .int .u32 0, .int .u32 0, .bool false, .slice none 0 0], .bool false]) ∧ Below w.heap.size w w' := by
  obtain ⟨w1, hw1⟩ : ∃ w1, w1 = w.alloc (.cells #[.int .u8 k.node, .int .u32 k.epoch, .int .u32 k.life, .int .u32 (k.seq : Int), .int .u32 (k.ack : Int), .bool k.plain, .slice va k.data.length vc] 31) := ⟨_, rfl⟩
  obtain ⟨g1, hb1, _⟩ := box_facts _ _ _ _ _ _ _ _ w1 hw1
  obtain ⟨w2, hw2⟩ : ∃ w2, w2 = w1.alloc (.cells #[.int .u8 0, .int .u32 0, .int .u32 0, .int .u32 0, .int .u32 0, .bool false, .slice none 0 0] 31) := ⟨_, rfl⟩
  obtain ⟨g2, hb2, _⟩ := box_facts _ _ _ _ _ _ _ _ w2 hw2
  have hs1 : w1.heap.size = w.heap.size + 1 := by rw [hw1]; simp
  have hs2 : w2.heap.size = w.heap.size + 2 := by rw [hw2]; simp [hs1]
  rw [hs1] at g2
  have HG1 := hid ((hb2.block _ (by omega)).trans g1)
  have HG2 := hid (show PkB w2 (w.heap.size + 1) from ⟨_, _, _, _, _, _, _, g2⟩)
  have HB2 := hid (hb1.trans (hb2.mono (by omega)))
  have HW1 := hid hw1
  have HW2 := hid hw2
  have HS2 := hid hs2
  clear g1 g2 hb1 hb2 hw1 hw2 hs1 hs2
  go_enter Try.func21, Try.ntmps21
  go_upto_region 1 with (fail)
  rw [← HW1.out, ← HW2.out]
  go_wp2_with (first | (refine pk_ld rfl (.tmp 3) rfl w.heap.size rfl _ _ _ _ _ _ _ HG1.out ?_) | fail)
  refine (mine_nil k va _ vc w2).mono ?_
  rintro e w3 ⟨rfl, hb3⟩
  have HB3 := hid (HB2.out.trans (hb3.mono (by have := HS2.out; omega)))
  have HP3 := hid (HG2.out.below hb3)
  clear hb3
  go_wp2_with (first | (refine pk_st rfl (.tmp 6) (.tmp 12) rfl (w.heap.size + 1) (.int .u8 0) (.int .u32 0) (.int .u32 0) (.int .u32 0) (.int .u32 0) (.bool false) (.slice none 0 0) rfl rfl HP3.out (by simp [Value.oneCell']) ?_) | fail)
  refine bodyPost_ret (results_pk4 rfl _ _ _ _ _ (w.heap.size + 1) _ _ _ _ _ _ _ rfl rfl rfl rfl (HP3.out.row _ _ _ _ _ _ _)) rfl ⟨rfl, ?_⟩
  exact HB3.out.trans (setRow_below _ (Nat.le_succ _))

set_option maxHeartbeats 4000000 in
theorem hear_zero (base : B9) (b : Nat) (s : Tk) (k : Pk) (va : Option Addr) (vc : Nat) (w : World) (h : TkAt w base b s) (hb : base.n ≤ w.heap.size) (hv : Far w base.n (.slice va k.data.length vc) k.data) (hkl : k.data.length ≤ 1000000) (hm : s.mine k = true) (hz : k.seq = 0) :
    Calls Try.prog 21 #[.pointer (some ⟨b, 0, none⟩), .agg #[.int .u8 k.node, .int .u32 k.epoch, .int .u32 k.life, .int .u32 (k.seq : Int), .int .u32 (k.ack : Int), .bool k.plain, .slice va k.data.length vc]] w fun e w' => e = .returned (.tuple #[.slice none 0 0, .bool false, .agg #[.int .u8 0, .int .u32 0, .int .u32 0, .int .u32 0, .int .u32 0, .bool false, .slice none 0 0], .bool false]) ∧ TkAt w' base b (s.settle k.ack) ∧ KQ base w w' := by
  obtain ⟨w1, hw1⟩ : ∃ w1, w1 = w.alloc (.cells #[.int .u8 k.node, .int .u32 k.epoch, .int .u32 k.life, .int .u32 (k.seq : Int), .int .u32 (k.ack : Int), .bool k.plain, .slice va k.data.length vc] 31) := ⟨_, rfl⟩
  obtain ⟨g1, hb1, _⟩ := box_facts _ _ _ _ _ _ _ _ w1 hw1
  obtain ⟨w2, hw2⟩ : ∃ w2, w2 = w1.alloc (.cells #[.int .u8 0, .int .u32 0, .int .u32 0, .int .u32 0, .int .u32 0, .bool false, .slice none 0 0] 31) := ⟨_, rfl⟩
  obtain ⟨g2, hb2, _⟩ := box_facts _ _ _ _ _ _ _ _ w2 hw2
  have hs1 : w1.heap.size = w.heap.size + 1 := by rw [hw1]; simp
  have hs2 : w2.heap.size = w.heap.size + 2 := by rw [hw2]; simp [hs1]
  rw [hs1] at g2
  have HG1 := hid ((hb2.block _ (by omega)).trans g1)
  have HG2 := hid (show PkB w2 (w.heap.size + 1) from ⟨_, _, _, _, _, _, _, g2⟩)
  have HB2 := hid (hb1.trans (hb2.mono (by omega)))
  have HW1 := hid hw1
  have HW2 := hid hw2
  have HS2 := hid hs2
  clear g1 g2 hb1 hb2 hw1 hw2 hs1 hs2
  have H2 := hid (h.below HB2.out)
  have HM := hid hm
  have HAK := hid (Tk.mine_ack hm)
  have HZ := hid hz
  clear h hm hv hz
  go_enter Try.func21, Try.ntmps21
  go_upto_region 1 with (fail)
  rw [← HW1.out, ← HW2.out]
  go_wp2_with (first | (refine pk_ld rfl (.tmp 3) rfl w.heap.size rfl _ _ _ _ _ _ _ HG1.out ?_) | fail)
  refine (mine_any base b s k va _ vc w2 H2.out).mono ?_
  rintro e w3 ⟨rfl, hb3⟩
  rw [HM.out]
  have H3 := hid (H2.out.below hb3)
  have HB3 := hid (HB2.out.trans (hb3.mono (by have := HS2.out; omega)))
  have HP3 := hid (HG2.out.below hb3)
  have HS3 := hid (show w.heap.size + 2 ≤ w3.heap.size by have := hb3.size; have := HS2.out; omega)
  have HG3 := hid ((hb3.block _ (by have := HS2.out; omega)).trans HG1.out)
  clear hb3
  have y4 : w3.cell? ⟨w.heap.size, 4, none⟩ = some (.int .u32 (k.ack : Int)) := (cell_of_row _ _ _ _ _ _ HG3.out).trans rfl
  go_wp2_with fail
  refine (settle_any base b k.ack s w3 H3.out (by have := HS3.out; omega) HAK.out).mono ?_
  rintro e w4 ⟨rfl, h4, k4⟩
  have H4 := hid h4
  have HK4 := hid ((KQ.of_below HB3.out hb).trans k4)
  have HG4 := hid (k4.kt.block HG3.out (by decide))
  have HP4 := hid (HP3.out.kt k4.kt (by decide))
  have HS4 := hid (show w.heap.size + 2 ≤ w4.heap.size by have := HS3.out; have := k4.size; omega)
  clear h4 k4 y4
  have y3 : w4.cell? ⟨w.heap.size, 3, none⟩ = some (.int .u32 (k.seq : Int)) := (cell_of_row _ _ _ _ _ _ HG4.out).trans rfl
  rw [HZ.out] at y3
  go_wp2_with (first | (refine pk_st rfl (.tmp 6) (.tmp 20) rfl (w.heap.size + 1) (.int .u8 0) (.int .u32 0) (.int .u32 0) (.int .u32 0) (.int .u32 0) (.bool false) (.slice none 0 0) rfl rfl HP4.out (by simp [Value.oneCell']) ?_) | fail)
  have kr := setRow_keeps w4 (w.heap.size + 1) #[.int .u8 0, .int .u32 0, .int .u32 0, .int .u32 0, .int .u32 0, .bool false, .slice none 0 0]
  refine bodyPost_ret (results_pk4 rfl _ _ _ _ _ (w.heap.size + 1) _ _ _ _ _ _ _ rfl rfl rfl rfl (HP4.out.row _ _ _ _ _ _ _)) rfl ⟨rfl, ?_, ?_⟩
  · exact H4.out.kt (ts := [31]) (b0 := base.n) (KT.of_keeps kr (fun q _ e => by
      obtain ⟨c0, c1, c2, c3, c4, c5, c6, e7⟩ := HP4.out
      subst e
      exact ⟨by omega, _, _, _, e7, by simp⟩) (by have := HS4.out; omega)) (by decide) (by decide) (by decide)
  · exact HK4.out.new kr (by omega) (by omega) (by have := HS4.out; omega)

set_option maxHeartbeats 4000000 in
theorem hear_again (base : B9) (b : Nat) (s : Tk) (k : Pk) (va : Option Addr) (vc : Nat) (w : World) (h : TkAt w base b s) (hb : base.n ≤ w.heap.size) (hv : Far w base.n (.slice va k.data.length vc) k.data) (hkl : k.data.length ≤ 1000000) (hm : s.mine k = true) (hz : k.seq ≠ 0) (hn : k.seq ≠ s.heard + 1) :
    Calls Try.prog 21 #[.pointer (some ⟨b, 0, none⟩), .agg #[.int .u8 k.node, .int .u32 k.epoch, .int .u32 k.life, .int .u32 (k.seq : Int), .int .u32 (k.ack : Int), .bool k.plain, .slice va k.data.length vc]] w fun e w' => ∃ x2 c2, e = .returned (.tuple #[.slice none 0 0, .bool false, .agg #[.int .u8 s.node, .int .u32 s.epoch, .int .u32 s.life, .int .u32 0, .int .u32 (s.heard : Int), .bool false, .slice x2 0 c2], .bool true]) ∧ Own w' w.heap.size (.slice x2 0 c2) [] ∧ TkAt w' base b (s.settle k.ack) ∧ KQ base w w' := by
  obtain ⟨w1, hw1⟩ : ∃ w1, w1 = w.alloc (.cells #[.int .u8 k.node, .int .u32 k.epoch, .int .u32 k.life, .int .u32 (k.seq : Int), .int .u32 (k.ack : Int), .bool k.plain, .slice va k.data.length vc] 31) := ⟨_, rfl⟩
  obtain ⟨g1, hb1, _⟩ := box_facts _ _ _ _ _ _ _ _ w1 hw1
  obtain ⟨w2, hw2⟩ : ∃ w2, w2 = w1.alloc (.cells #[.int .u8 0, .int .u32 0, .int .u32 0, .int .u32 0, .int .u32 0, .bool false, .slice none 0 0] 31) := ⟨_, rfl⟩
  obtain ⟨g2, hb2, _⟩ := box_facts _ _ _ _ _ _ _ _ w2 hw2
  have hs1 : w1.heap.size = w.heap.size + 1 := by rw [hw1]; simp
  have hs2 : w2.heap.size = w.heap.size + 2 := by rw [hw2]; simp [hs1]
  rw [hs1] at g2
  have HG1 := hid ((hb2.block _ (by omega)).trans g1)
  have HG2 := hid (show PkB w2 (w.heap.size + 1) from ⟨_, _, _, _, _, _, _, g2⟩)
  have HB2 := hid (hb1.trans (hb2.mono (by omega)))
  have HW1 := hid hw1
  have HW2 := hid hw2
  have HS2 := hid hs2
  clear g1 g2 hb1 hb2 hw1 hw2 hs1 hs2
  have H2 := hid (h.below HB2.out)
  have HM := hid hm
  have HAK := hid (Tk.mine_ack hm)
  have hhd : s.heard ≤ 1000000 := by
    obtain ⟨fv, PF, hh⟩ := h
    exact hh.ok.2.2.2.1
  have e0 : ((k.seq : Int) == 0) = false := by rw [beq_eq_false_iff_ne]; omega
  have ew : IntKind.u32.wrap ((s.heard : Int) + 1) = (s.heard : Int) + 1 := by simp [IntKind.wrap, IntKind.bits, IntKind.signed]; omega
  have e1 : ((k.seq : Int) != IntKind.u32.wrap ((s.heard : Int) + 1)) = true := by rw [ew, bne_iff_ne]; omega
  clear ew
  clear h hm hv hz hn
  go_enter Try.func21, Try.ntmps21
  go_upto_region 1 with (fail)
  rw [← HW1.out, ← HW2.out]
  go_wp2_with (first | (refine pk_ld rfl (.tmp 3) rfl w.heap.size rfl _ _ _ _ _ _ _ HG1.out ?_) | fail)
  refine (mine_any base b s k va _ vc w2 H2.out).mono ?_
  rintro e w3 ⟨rfl, hb3⟩
  rw [HM.out]
  have H3 := hid (H2.out.below hb3)
  have HB3 := hid (HB2.out.trans (hb3.mono (by have := HS2.out; omega)))
  have HP3 := hid (HG2.out.below hb3)
  have HS3 := hid (show w.heap.size + 2 ≤ w3.heap.size by have := hb3.size; have := HS2.out; omega)
  have HG3 := hid ((hb3.block _ (by have := HS2.out; omega)).trans HG1.out)
  clear hb3
  have y4 : w3.cell? ⟨w.heap.size, 4, none⟩ = some (.int .u32 (k.ack : Int)) := (cell_of_row _ _ _ _ _ _ HG3.out).trans rfl
  go_wp2_with fail
  refine (settle_any base b k.ack s w3 H3.out (by have := HS3.out; omega) HAK.out).mono ?_
  rintro e w4 ⟨rfl, h4, k4⟩
  have H4 := hid h4
  have HK4 := hid ((KQ.of_below HB3.out hb).trans k4)
  have HG4 := hid (k4.kt.block HG3.out (by decide))
  have HP4 := hid (HP3.out.kt k4.kt (by decide))
  have HS4 := hid (show w.heap.size + 2 ≤ w4.heap.size by have := HS3.out; have := k4.size; omega)
  clear h4 k4 y4
  have y3 : w4.cell? ⟨w.heap.size, 3, none⟩ = some (.int .u32 (k.seq : Int)) := (cell_of_row _ _ _ _ _ _ HG4.out).trans rfl
  obtain ⟨fv, PF, hh⟩ := H4.out
  obtain ⟨c0, c1, c2, c3, c4, c5, c6, hf⟩ := hh.cells
  have d3 : w4.drew.cell? ⟨b, 3, none⟩ = some (.int .u32 (s.heard : Int)) := c3
  have d0 : w4.drew.cell? ⟨w.heap.size, 3, none⟩ = some (.int .u32 (k.seq : Int)) := y3
  clear c0 c1 c2 c3 c4 c5 c6 hf
  go_wp2_with fail
  go_region_held3 (fun w' => w'.cell? ⟨b, 3, none⟩ = some (.int .u32 (s.heard : Int)) ∧ w'.cell? ⟨w.heap.size, 3, none⟩ = some (.int .u32 (k.seq : Int))) (first | (refine ⟨?_, ?_⟩ <;> with_reducible assumption) | fail) (fail)
  go_wp2_with fail
  refine (packet_any base b (s.settle k.ack) 0 (.slice none 0 0) [] w4.drew (H4.out.below (below_dr (Below.refl _ _))) (Rd.nil _) (by simp)).mono ?_
  rintro e w5 ⟨x2, c2, rfl, ho5, hb5⟩
  have HO5 := hid ho5
  have HB5 := hid (show Below w4.heap.size w4 w5 from (below_dr (Below.refl _ _)).trans hb5)
  have HP5 := hid (HP4.out.below HB5.out)
  clear ho5 hb5
  go_wp2_with (first | (refine pk_st rfl (.tmp 6) (.tmp 30) rfl (w.heap.size + 1) (.int .u8 s.node) (.int .u32 s.epoch) (.int .u32 s.life) (.int .u32 0) (.int .u32 (s.heard : Int)) (.bool false) (.slice x2 0 c2) rfl rfl HP5.out (by simp [Value.oneCell']) ?_) | fail)
  have h45 := HB5.out.size
  have h4 := HS4.out
  have kr := setRow_keeps w5 (w.heap.size + 1) #[.int .u8 s.node, .int .u32 s.epoch, .int .u32 s.life, .int .u32 0, .int .u32 (s.heard : Int), .bool false, .slice x2 0 c2]
  refine bodyPost_ret (results_pk4 rfl _ _ _ _ _ (w.heap.size + 1) _ _ _ _ _ _ _ rfl rfl rfl rfl (HP5.out.row _ _ _ _ _ _ _)) rfl ⟨x2, c2, rfl, ?_, ?_, ?_⟩
  · exact (HO5.out.to (fun q hq => kr.block q (HO5.out.lt q hq).2 (by have : w4.heap.size ≤ q := (HO5.out.lt q hq).1; omega))).base (fun q hq => by have : w4.heap.size ≤ q := (HO5.out.lt q hq).1; omega)
  · exact (H4.out.below HB5.out).kt (ts := [31]) (b0 := base.n) (KT.of_keeps kr (fun q _ e => by
      obtain ⟨c0, c1, c2, c3, c4, c5, c6, e7⟩ := HP5.out
      subst e
      exact ⟨by omega, _, _, _, e7, by simp⟩) (by omega)) (by decide) (by decide) (by decide)
  · exact (HK4.out.trans (KQ.of_below HB5.out (by omega))).new kr (by omega) (by omega) (by omega)

set_option maxHeartbeats 4000000 in
theorem hear_new (base : B9) (b : Nat) (s : Tk) (k : Pk) (va : Option Addr) (vc : Nat) (w : World) (h : TkAt w base b s) (hb : base.n ≤ w.heap.size) (hv : Far w base.n (.slice va k.data.length vc) k.data) (hkl : k.data.length ≤ 1000000) (hm : s.mine k = true) (hn : k.seq = s.heard + 1) (hh1 : s.heard < 1000000) :
    Calls Try.prog 21 #[.pointer (some ⟨b, 0, none⟩), .agg #[.int .u8 k.node, .int .u32 k.epoch, .int .u32 k.life, .int .u32 (k.seq : Int), .int .u32 (k.ack : Int), .bool k.plain, .slice va k.data.length vc]] w fun e w' => ∃ x1 c1 x2 c2, e = .returned (.tuple #[.slice x1 k.data.length c1, .bool true, .agg #[.int .u8 s.node, .int .u32 s.epoch, .int .u32 s.life, .int .u32 0, .int .u32 ((s.heard : Int) + 1), .bool false, .slice x2 0 c2], .bool true]) ∧ Own w' w.heap.size (.slice x1 k.data.length c1) k.data ∧ Own w' w.heap.size (.slice x2 0 c2) [] ∧ TkAt w' base b { s.settle k.ack with heard := s.heard + 1 } ∧ KQ base w w' := by
  obtain ⟨w1, hw1⟩ : ∃ w1, w1 = w.alloc (.cells #[.int .u8 k.node, .int .u32 k.epoch, .int .u32 k.life, .int .u32 (k.seq : Int), .int .u32 (k.ack : Int), .bool k.plain, .slice va k.data.length vc] 31) := ⟨_, rfl⟩
  obtain ⟨g1, hb1, _⟩ := box_facts _ _ _ _ _ _ _ _ w1 hw1
  obtain ⟨w2, hw2⟩ : ∃ w2, w2 = w1.alloc (.cells #[.int .u8 0, .int .u32 0, .int .u32 0, .int .u32 0, .int .u32 0, .bool false, .slice none 0 0] 31) := ⟨_, rfl⟩
  obtain ⟨g2, hb2, _⟩ := box_facts _ _ _ _ _ _ _ _ w2 hw2
  have hs1 : w1.heap.size = w.heap.size + 1 := by rw [hw1]; simp
  have hs2 : w2.heap.size = w.heap.size + 2 := by rw [hw2]; simp [hs1]
  rw [hs1] at g2
  have HG1 := hid ((hb2.block _ (by omega)).trans g1)
  have HG2 := hid (show PkB w2 (w.heap.size + 1) from ⟨_, _, _, _, _, _, _, g2⟩)
  have HB2 := hid (hb1.trans (hb2.mono (by omega)))
  have HW1 := hid hw1
  have HW2 := hid hw2
  have HS2 := hid hs2
  clear g1 g2 hb1 hb2 hw1 hw2 hs1 hs2
  have H2 := hid (h.below HB2.out)
  have HM := hid hm
  have HAK := hid (Tk.mine_ack hm)
  have HV := hid hv
  have e0 : ((k.seq : Int) == 0) = false := by rw [beq_eq_false_iff_ne]; omega
  have ew : IntKind.u32.wrap ((s.heard : Int) + 1) = (s.heard : Int) + 1 := by simp [IntKind.wrap, IntKind.bits, IntKind.signed]; omega
  have e1 : ((k.seq : Int) != IntKind.u32.wrap ((s.heard : Int) + 1)) = false := by rw [ew, bne_eq_false_iff_eq]; omega
  clear ew
  clear h hm hv hn
  go_enter Try.func21, Try.ntmps21
  go_upto_region 1 with (fail)
  rw [← HW1.out, ← HW2.out]
  go_wp2_with (first | (refine pk_ld rfl (.tmp 3) rfl w.heap.size rfl _ _ _ _ _ _ _ HG1.out ?_) | fail)
  refine (mine_any base b s k va _ vc w2 H2.out).mono ?_
  rintro e w3 ⟨rfl, hb3⟩
  rw [HM.out]
  have H3 := hid (H2.out.below hb3)
  have HB3 := hid (HB2.out.trans (hb3.mono (by have := HS2.out; omega)))
  have HP3 := hid (HG2.out.below hb3)
  have HS3 := hid (show w.heap.size + 2 ≤ w3.heap.size by have := hb3.size; have := HS2.out; omega)
  have HG3 := hid ((hb3.block _ (by have := HS2.out; omega)).trans HG1.out)
  clear hb3
  have y4 : w3.cell? ⟨w.heap.size, 4, none⟩ = some (.int .u32 (k.ack : Int)) := (cell_of_row _ _ _ _ _ _ HG3.out).trans rfl
  go_wp2_with fail
  refine (settle_any base b k.ack s w3 H3.out (by have := HS3.out; omega) HAK.out).mono ?_
  rintro e w4 ⟨rfl, h4, k4⟩
  have H4 := hid h4
  have HK4 := hid ((KQ.of_below HB3.out hb).trans k4)
  have HG4 := hid (k4.kt.block HG3.out (by decide))
  have HP4 := hid (HP3.out.kt k4.kt (by decide))
  have HS4 := hid (show w.heap.size + 2 ≤ w4.heap.size by have := HS3.out; have := k4.size; omega)
  clear h4 k4 y4
  have y3 : w4.cell? ⟨w.heap.size, 3, none⟩ = some (.int .u32 (k.seq : Int)) := (cell_of_row _ _ _ _ _ _ HG4.out).trans rfl
  obtain ⟨fv, PF, hh⟩ := H4.out
  obtain ⟨c0, c1, c2, c3, c4, c5, c6, hf⟩ := hh.cells
  have d3 : w4.drew.cell? ⟨b, 3, none⟩ = some (.int .u32 (s.heard : Int)) := c3
  have d0 : w4.drew.cell? ⟨w.heap.size, 3, none⟩ = some (.int .u32 (k.seq : Int)) := y3
  have f3 : w4.frozen? ⟨b, 3, none⟩ = false := hf 3
  have HH4 := hid hh
  clear c0 c1 c2 c3 c4 c5 c6 hf hh
  go_wp2_with fail
  go_region_held3 (fun w' => w'.cell? ⟨b, 3, none⟩ = some (.int .u32 (s.heard : Int)) ∧ w'.cell? ⟨w.heap.size, 3, none⟩ = some (.int .u32 (k.seq : Int))) (first | (refine ⟨?_, ?_⟩ <;> with_reducible assumption) | fail) (fail)
  go_upto_region 9 with (fail)
  obtain ⟨w5, hw5⟩ : ∃ w5, w5 = (w4.setCell ⟨b, 3, none⟩ (.int .u32 ((s.heard : Int) + 1))).drew := ⟨_, rfl⟩
  rw [← hw5]
  have hk5 : Keeps (fun q => q = b) w4.drew w5 := by rw [hw5]; exact kset w4.drew _ _ _
  have HHd := HH4.out.below (w' := w4.drew) (below_dr (Below.refl _ _))
  have H5 := hid (show TkV w5 base b { s.settle k.ack with heard := s.heard + 1 } fv PF from HHd.head' hk5 (by rw [hw5]; refine (heap_setCell_same w4.drew _ _ _ _ _ HHd.head).trans ?_; simp [Tk.settle]) HHd.list (by have ho := HHd.ok; exact ⟨ho.1, ho.2.1, ho.2.2.1, hh1, ho.2.2.2.2.1, ho.2.2.2.2.2⟩))
  have hbw : b ≠ w.heap.size ∧ b ≠ w.heap.size + 1 := by
    obtain ⟨_, _, h2⟩ := H2.out
    have e2 := h2.head
    refine ⟨fun e => ?_, fun e => ?_⟩
    · rw [e, HG1.out] at e2
      simp only [Option.some.injEq, Obj.cells.injEq] at e2
      exact absurd e2.2.1 (by decide)
    · obtain ⟨q0, q1, q2, q3, q4, q5, q6, e7⟩ := HG2.out
      rw [e, e7] at e2
      simp only [Option.some.injEq, Obj.cells.injEq] at e2
      exact absurd e2.2.1 (by decide)
  have hs5 : w5.heap.size = w4.heap.size := by rw [hw5]; show (w4.setCell _ _).heap.size = _; simp [World.setCell]
  have h4 := HS4.out
  have HS5 := hid (show w.heap.size + 2 ≤ w5.heap.size by omega)
  have HP5 := hid (HP4.out.of (w' := w5) (hk5.block (w.heap.size + 1) (show w.heap.size + 1 < w4.heap.size by omega) (fun e => hbw.2 e.symm)))
  have hg5 := (hk5.block w.heap.size (show w.heap.size < w4.heap.size by omega) (fun e => hbw.1 e.symm)).trans HG4.out
  have HK5 := hid (show KQ base w w5 from HK4.out.drew.trans (HHd.ktS hk5 (fun q _ e => .inl e) (show base.n ≤ w4.heap.size by omega)))
  have y6 : w5.cell? ⟨w.heap.size, 6, none⟩ = some (.slice va k.data.length vc) := (cell_of_row _ _ _ _ _ _ hg5).trans rfl
  have HV5 := hid (HV.out.kt HK5.out.kt (by decide)).1
  clear hw5 hk5 HHd hbw hs5 hg5 d3 d0 f3 y3
  go_wp2_with fail
  refine (clone_any (.slice va k.data.length vc) k.data w5 HV5.out (by omega)).mono ?_
  rintro e w6 ⟨v', rfl, ho6, hb6⟩
  obtain ⟨x1, c1, ex⟩ := rd_sl ho6.rd
  subst ex
  have HO6 := hid ho6
  have HB6 := hid hb6
  clear ho6 hb6
  go_wp2_with fail
  refine (packet_any base b { s.settle k.ack with heard := s.heard + 1 } 0 (.slice none 0 0) [] w6 ⟨_, _, H5.out.below HB6.out⟩ (Rd.nil _) (by simp)).mono ?_
  rintro e w7 ⟨x2, c2, rfl, ho7, hb7⟩
  have HO7 := hid ho7
  have HB7 := hid hb7
  have HP7 := hid ((HP5.out.below HB6.out).below hb7)
  clear ho7 hb7
  go_wp2_with (first | (refine pk_st rfl (.tmp 6) (.tmp 42) rfl (w.heap.size + 1) (.int .u8 s.node) (.int .u32 s.epoch) (.int .u32 s.life) (.int .u32 0) (.int .u32 ((s.heard : Int) + 1)) (.bool false) (.slice x2 0 c2) rfl rfl HP7.out (by simp [Value.oneCell']) ?_) | fail)
  have h56 := HB6.out.size
  have h67 := HB7.out.size
  have h5 := HS5.out
  have kr := setRow_keeps w7 (w.heap.size + 1) #[.int .u8 s.node, .int .u32 s.epoch, .int .u32 s.life, .int .u32 0, .int .u32 ((s.heard : Int) + 1), .bool false, .slice x2 0 c2]
  refine bodyPost_ret (results_pk4 rfl _ _ _ _ _ (w.heap.size + 1) _ _ _ _ _ _ _ rfl rfl rfl rfl (HP7.out.row _ _ _ _ _ _ _)) rfl ⟨x1, c1, x2, c2, rfl, ?_, ?_, ?_, ?_⟩
  · have ho := HO6.out.below HB7.out
    exact (ho.to (fun q hq => kr.block q (ho.lt q hq).2 (by have := (ho.lt q hq).1; omega))).base (fun q hq => by have := (ho.lt q hq).1; omega)
  · exact (HO7.out.to (fun q hq => kr.block q (HO7.out.lt q hq).2 (by have := (HO7.out.lt q hq).1; omega))).base (fun q hq => by have := (HO7.out.lt q hq).1; omega)
  · refine TkAt.kt (ts := [31]) (b0 := base.n) ⟨_, _, (H5.out.below HB6.out).below HB7.out⟩ (KT.of_keeps kr (fun q _ e => by
      obtain ⟨c0, c1, c2, c3, c4, c5, c6, e7⟩ := HP7.out
      subst e
      exact ⟨by omega, _, _, _, e7, by simp⟩) (by omega)) (by decide) (by decide) (by decide)
  · exact ((HK5.out.trans (KQ.of_below HB6.out (by omega))).trans (KQ.of_below HB7.out (by omega))).new kr (by omega) (by omega) (by omega)

end Go.Proofs.Ytjpojlkdogaalaa
