/-
  quadrillelaw06.awake: the document's example.
-/
import Derived.Test.YtbagpckiegpalaaMpE
import Derived.Lib.SlBytesConst
namespace Go.Proofs.Ytbagpckiegpalaa
open Go.RowKit
set_option linter.unusedVariables false
set_option linter.unusedSimpArgs false

def ax0 : Sl := Sl.new 4
def axB : Blk := ⟨7, 1#32, 2#32, 3#32, [97, 98]⟩
def ax1 : Sl := (ax0.putb 3 axB).1

theorem ax_facts : (ax0.putb 3 axB).2 = 0 ∧ ax0.steps ≤ 1000000 ∧ ax0.way.length < 1000000 := by
  decide +kernel
theorem ax_get : ax1.getb 3 = (0, axB) := by
  kernel_rfl

theorem get_ax (base b bn bd : Nat) (wv : Value) (w : World) (h : SlabAt w base b bn bd wv ax1) :
    Calls Try.prog 14 #[.pointer (some ⟨b, 0, none⟩), .int .i64 3] w fun e w' => ∃ ua uc, e = .returned (.tuple #[.agg #[.int .u8 7, .int .u32 1, .int .u32 2, .int .u32 3, .slice ua 2 uc], .int .i64 0]) ∧ Own w' w.heap.size (.slice ua 2 uc) [97, 98] ∧ Below w.heap.size w w' := by
  refine (get_any base b bn bd wv ax1 3 w h).mono ?_
  rintro e w' ⟨dv, rfl, ho, hb⟩
  rw [ax_get] at ho ⊢
  obtain ⟨ua, uc, rfl⟩ := rd_slice ho.rd
  exact ⟨ua, uc, rfl, ho, hb⟩

theorem left_cell (w : World) (b : Nat) (left : Int) (h : w.cell? ⟨b, 1, none⟩ = some (.int .i64 left)) : Calls Try.prog 36 #[.pointer (some ⟨b, 0, none⟩)] w fun e w' => e = .returned (.int .i64 left) ∧ w = w' := by
  go_enter Try.func36, Try.ntmps36
  go_wp2_with fail
  go_ret
  exact ⟨rfl, rfl⟩

set_option maxRecDepth 100000 in
set_option maxHeartbeats 4000000 in
theorem awake6_any (w : World) :
    Calls Try.prog 9 #[] w fun e w' => e = .returned (.bool true) ∧ Below w.heap.size w w' := by
  obtain ⟨f1, g1, g2⟩ := ax_facts
  have F1 := hid f1
  have G1 := hid g1
  have G2 := hid g2
  clear f1 g1 g2
  go_enter Try.func9, Try.ntmps9
  go_wp2_with fail
  refine (new_yes 4 w (by omega) (by omega)).mono ?_
  rintro e w1 ⟨b, bn, bd, rfl, h1, hb1⟩
  have H1 := hid h1
  have B1 := hid hb1
  have hs1 := hb1.size
  clear h1 hb1
  have hcv : (convert 32 32 (.slice (some ⟨w1.heap.size, 0, none⟩) 2 2)).run Try.prog (w1.alloc (.cells #[.int .u8 97, .int .u8 98] 5)) = .ok (.slice (some ⟨w1.heap.size, 0, none⟩) 2 2) (w1.alloc (.cells #[.int .u8 97, .int .u8 98] 5 (2, 3))) :=
    Lib.run_convert_bytes_const w1 32 5 _ 2 2 Try.underlying32 Try.underlying5
  go_wp2_with fail
  clear hcv
  refine (put_all w.heap.size b bn bd _ ax0 3 axB _ _ (H1.out.below ((Below.refl _ _).alloc (Nat.le_refl _) _)) G1.out G2.out (Rd.lit w1 #[.int .u8 97, .int .u8 98] (2, 3) [97, 98] 2 rfl rfl (by unfold maxLen; simp))).mono ?_
  rintro e w2 ⟨wv2, rfl, h2, hk2⟩
  rw [F1.out]
  have H2 := hid (show SlabAt w2 w.heap.size b bn bd wv2 ax1 from h2)
  have B2 := hid ((B1.out.alloc hs1 _).trans ((H1.out.below ((Below.refl _ _).alloc (Nat.le_refl _) _)).keep hk2))
  have hs2 := B2.out.size
  clear h2 hk2
  go_wp2_with fail
  refine (get_ax w.heap.size b bn bd _ w2 H2.out).mono ?_
  rintro e w3 ⟨ua, uc, rfl, ho, hb3⟩
  have B3 := hid (B2.out.trans (hb3.mono hs2))
  have hs3 := B3.out.size
  have HO := hid ho
  clear ho hb3
  go_wp2_with fail
  obtain ⟨w4, hw4⟩ : ∃ z, z = w3.alloc (.cells #[.int .u8 7, .int .u32 1, .int .u32 2, .int .u32 3, .slice ua 2 uc] 40) := ⟨_, rfl⟩
  rw [← hw4]
  have hb4 : Below w3.heap.size w3 w4 := by rw [hw4]; exact (Below.refl _ _).alloc (Nat.le_refl _) _
  have HX4 := hid (show w4.heap[w3.heap.size]? = some (.cells #[.int .u8 7, .int .u32 1, .int .u32 2, .int .u32 3, .slice ua 2 uc] 40 (0, 0)) by rw [hw4]; exact heap_alloc_new _ _)
  have HO4 := hid (HO.out.below hb4)
  have B4 := hid (B3.out.trans (hb4.mono hs3))
  have hs4 := B4.out.size
  clear hw4 hb4
  refine (newmap3 w4).mono ?_
  rintro e w5 ⟨b5, g5, rfl, hm5, hb5⟩
  have HM5 := hid hm5
  have HX5 := hid ((hb5.block _ (Array.getElem?_eq_some_iff.1 HX4.out).1).trans HX4.out)
  have HO5 := hid (HO4.out.below hb5)
  have B5 := hid (B4.out.trans (hb5.mono hs4))
  have HL5 := hid (Array.getElem?_eq_some_iff.1 HX4.out).1
  clear hm5 hb5
  go_wp2_with fail
  refine (take_two w5 w4.heap.size b5 g5 HM5.out).mono ?_
  rintro e w6 ⟨va, vc, rfl, hm6, hk6⟩
  have hne : ∀ k, k < w4.heap.size → ¬ (k = b5 ∨ k = g5) := fun k hk e => by
    have h1 := HM5.out.lob
    have h2 := HM5.out.log
    rcases e with rfl | rfl <;> omega
  have HX6 := hid ((hk6.block _ (Array.getElem?_eq_some_iff.1 HX5.out).1 (hne _ HL5.out)).trans HX5.out)
  have HO6 := hid (show Own w6 w2.heap.size (.slice ua 2 uc) [97, 98] from HO5.out.keeps hk6 (fun k hk => hne k (HO4.out.lt k hk).2))
  have B6 := hid (B5.out.trans (hk6.below (Nat.le_trans B5.out.size (Nat.le_refl _)) (fun i e => by
    have h1 := HM5.out.lob
    have h2 := HM5.out.log
    rcases e with rfl | rfl <;> omega)))
  have HM6 := hid hm6
  have hbl := Array.getElem?_eq_some_iff.1 hm6.map |>.1
  clear hk6 hm6 hne
  have c0 : w6.cell? ⟨w3.heap.size, 0, none⟩ = some (.int .u8 7) := (cell_of_row _ _ _ _ _ _ HX6.out).trans rfl
  have c4 : w6.cell? ⟨w3.heap.size, 4, none⟩ = some (.slice ua 2 uc) := (cell_of_row _ _ _ _ _ _ HX6.out).trans rfl
  have htx := text_of HO6.out.rd
  go_wp2_with (first
    | (go_at_call 34; refine (free_zero w6 w4.heap.size b5 g5 HM6.out).mono ?_; rintro e w7 ⟨rfl, hc7, hk7⟩)
    | (go_at_call 36; refine (left_cell w7 b5 2 hc7).mono ?_; rintro e w8 ⟨rfl, rfl⟩)
    | fail)
  go_ret
  refine ⟨rfl, B6.out.trans (hk7.below ?_ (fun i e => ?_))⟩
  · exact B6.out.size
  · have h1 := HM6.out.lob
    rw [e]
    exact Nat.le_trans B4.out.size h1

end Go.Proofs.Ytbagpckiegpalaa
