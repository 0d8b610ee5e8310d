/-
  Layer 10: the document's packet and Mine.
-/
import Derived.Test.YtjpojlkdogaalaaRtM
namespace Go.Proofs.Ytjpojlkdogaalaa
open Go.RowKit
set_option linter.unusedVariables false
set_option linter.unusedSimpArgs false

set_option maxHeartbeats 4000000 in
theorem refpacket_none (base : B9) (b : Nat) (s : Tk) (w : World) (h : RtAt w base b s) :
    Calls Try.prog 29 #[.pointer (some ⟨b, 0, none⟩), .int .i64 (-1)] w fun e w' => e = .returned (.agg #[.int .u8 s.node, .int .u32 s.epoch, .int .u32 s.life, .int .u32 0, .int .u32 (s.heard : Int), .bool false, .slice none 0 0]) ∧ Below w.heap.size w w' := by
  obtain ⟨sv, tv, PF, hh⟩ := h
  have hlt := hh.lt
  obtain ⟨w1, hw1⟩ : ∃ w1, w1 = w.alloc (.cells #[.int .u8 0, .int .u32 0, .int .u32 0, .int .u32 0, .int .u32 0, .bool false, .slice none 0 0] 31) := ⟨_, rfl⟩
  obtain ⟨g1, hb1, _⟩ := box_facts _ _ _ _ _ _ _ _ w1 hw1
  have hs1 : w1.heap.size = w.heap.size + 1 := by rw [hw1]; simp
  obtain ⟨c0, c1, c2, _, _, _, _, c7, _⟩ := (hh.below hb1).cells
  have d0 : w1.drew.cell? ⟨b, 0, none⟩ = some (.int .u8 s.node) := c0
  have d1 : w1.drew.cell? ⟨b, 1, none⟩ = some (.int .u32 s.epoch) := c1
  have d2 : w1.drew.cell? ⟨b, 2, none⟩ = some (.int .u32 s.life) := c2
  have d7 : w1.drew.cell? ⟨b, 7, none⟩ = some (.int .u32 (s.heard : Int)) := c7
  have hlt1 : b < w1.heap.size := by omega
  have HP1 := hid (show PkB w1 w.heap.size from ⟨_, _, _, _, _, _, _, g1⟩)
  have HB1 := hid hb1
  have HS1 := hid hs1
  have HW1 := hid hw1
  have HH := hid hh
  clear hw1 hs1 hb1 g1 hh c0 c1 c2 c7
  go_enter Try.func29, Try.ntmps29
  go_upto_region 1 with (fail)
  rw [← HW1.out]
  go_region_held3 (fun w' => w'.cell? ⟨b, 0, none⟩ = some (.int .u8 s.node) ∧ w'.cell? ⟨b, 1, none⟩ = some (.int .u32 s.epoch) ∧ w'.cell? ⟨b, 2, none⟩ = some (.int .u32 s.life) ∧ w'.cell? ⟨b, 7, none⟩ = some (.int .u32 (s.heard : Int)))
    (first | (with_reducible refine ⟨?_, ?_, ?_, ?_⟩ <;> assumption) | (refine ⟨?_, ?_, ?_, ?_⟩ <;> first | exact (((Below.refl w1.heap.size w1).alloc (Nat.le_refl _) _).cell (p := ⟨b, 0, none⟩) hlt1).trans d0 | exact (((Below.refl w1.heap.size w1).alloc (Nat.le_refl _) _).cell (p := ⟨b, 1, none⟩) hlt1).trans d1 | exact (((Below.refl w1.heap.size w1).alloc (Nat.le_refl _) _).cell (p := ⟨b, 2, none⟩) hlt1).trans d2 | exact (((Below.refl w1.heap.size w1).alloc (Nat.le_refl _) _).cell (p := ⟨b, 7, none⟩) hlt1).trans d7) | fail) (fail)
  obtain ⟨w2, hw2⟩ : ∃ w2, w2 = (w1.alloc (.cells #[.int .u8 s.node, .int .u32 s.epoch, .int .u32 s.life, .int .u32 0, .int .u32 (s.heard : Int), .bool false, .slice none 0 0] 31)).drew := ⟨_, rfl⟩
  rw [← hw2]
  have HR2 := hid (show w2.heap[w1.heap.size]? = some (.cells #[.int .u8 s.node, .int .u32 s.epoch, .int .u32 s.life, .int .u32 0, .int .u32 (s.heard : Int), .bool false, .slice none 0 0] 31 (0, 0)) by rw [hw2]; exact heap_alloc_new w1 _)
  have HB2 := hid (show Below w1.heap.size w1 w2 by rw [hw2]; exact below_dr ((Below.refl _ _).alloc (Nat.le_refl _) _))
  have hs2 : w2.heap.size = w.heap.size + 2 := by rw [hw2]; show (w1.alloc _).heap.size = _; simp [HS1.out]
  have HS2 := hid hs2
  have HP2 := hid (HP1.out.below HB2.out)
  clear hw2 hs2 d0 d1 d2 d7 hlt1
  go_wp2_with (first | (refine pk_ld rfl (.tmp 5) rfl w1.heap.size rfl _ _ _ _ _ _ _ HR2.out ?_) | (refine pk_st rfl (.tmp 4) (.tmp 39) rfl w.heap.size _ _ _ _ _ _ _ rfl rfl HP2.out (by simp [Value.oneCell']) ?_) | fail)
  refine bodyPost_ret (results_pk rfl _ _ w.heap.size _ _ _ _ _ _ _ rfl (HP2.out.row _ _ _ _ _ _ _)) rfl ⟨rfl, ?_⟩
  exact (HB1.out.trans (HB2.out.mono (by have := HS1.out; omega))).trans (setRow_below _ (Nat.le_refl _))

set_option maxHeartbeats 4000000 in
theorem refpacket_some (base : B9) (b i : Nat) (s : Tk) (x : Th) (w : World) (h : RtAt w base b s) (hx : s.all[i]? = some x) :
    Calls Try.prog 29 #[.pointer (some ⟨b, 0, none⟩), .int .i64 (i : Int)] w fun e w' => ∃ va vc, e = .returned (.agg #[.int .u8 s.node, .int .u32 s.epoch, .int .u32 s.life, .int .u32 ((i : Int) + 1), .int .u32 (s.heard : Int), .bool false, .slice va x.t.length vc]) ∧ Own w' w.heap.size (.slice va x.t.length vc) x.t ∧ Below w.heap.size w w' := by
  obtain ⟨sv, tv, PF, hh⟩ := h
  have hlt := hh.lt
  obtain ⟨w1, hw1⟩ : ∃ w1, w1 = w.alloc (.cells #[.int .u8 0, .int .u32 0, .int .u32 0, .int .u32 0, .int .u32 0, .bool false, .slice none 0 0] 31) := ⟨_, rfl⟩
  obtain ⟨g1, hb1, _⟩ := box_facts _ _ _ _ _ _ _ _ w1 hw1
  have hs1 : w1.heap.size = w.heap.size + 1 := by rw [hw1]; simp
  obtain ⟨c0, c1, c2, _, _, _, _, c7, _⟩ := (hh.below hb1).cells
  have d0 : w1.drew.cell? ⟨b, 0, none⟩ = some (.int .u8 s.node) := c0
  have d1 : w1.drew.cell? ⟨b, 1, none⟩ = some (.int .u32 s.epoch) := c1
  have d2 : w1.drew.cell? ⟨b, 2, none⟩ = some (.int .u32 s.life) := c2
  have d7 : w1.drew.cell? ⟨b, 7, none⟩ = some (.int .u32 (s.heard : Int)) := c7
  have hlt1 : b < w1.heap.size := by omega
  have HP1 := hid (show PkB w1 w.heap.size from ⟨_, _, _, _, _, _, _, g1⟩)
  have HB1 := hid hb1
  have HS1 := hid hs1
  have HW1 := hid hw1
  have HH := hid hh
  clear hw1 hs1 hb1 g1 hh c0 c1 c2 c7
  go_enter Try.func29, Try.ntmps29
  go_upto_region 1 with (fail)
  rw [← HW1.out]
  go_region_held3 (fun w' => w'.cell? ⟨b, 0, none⟩ = some (.int .u8 s.node) ∧ w'.cell? ⟨b, 1, none⟩ = some (.int .u32 s.epoch) ∧ w'.cell? ⟨b, 2, none⟩ = some (.int .u32 s.life) ∧ w'.cell? ⟨b, 7, none⟩ = some (.int .u32 (s.heard : Int)))
    (first | (with_reducible refine ⟨?_, ?_, ?_, ?_⟩ <;> assumption) | (refine ⟨?_, ?_, ?_, ?_⟩ <;> first | exact (((Below.refl w1.heap.size w1).alloc (Nat.le_refl _) _).cell (p := ⟨b, 0, none⟩) hlt1).trans d0 | exact (((Below.refl w1.heap.size w1).alloc (Nat.le_refl _) _).cell (p := ⟨b, 1, none⟩) hlt1).trans d1 | exact (((Below.refl w1.heap.size w1).alloc (Nat.le_refl _) _).cell (p := ⟨b, 2, none⟩) hlt1).trans d2 | exact (((Below.refl w1.heap.size w1).alloc (Nat.le_refl _) _).cell (p := ⟨b, 7, none⟩) hlt1).trans d7) | fail) (fail)
  obtain ⟨w2, hw2⟩ : ∃ w2, w2 = (w1.alloc (.cells #[.int .u8 s.node, .int .u32 s.epoch, .int .u32 s.life, .int .u32 0, .int .u32 (s.heard : Int), .bool false, .slice none 0 0] 31)).drew := ⟨_, rfl⟩
  rw [← hw2]
  have HR2 := hid (show w2.heap[w1.heap.size]? = some (.cells #[.int .u8 s.node, .int .u32 s.epoch, .int .u32 s.life, .int .u32 0, .int .u32 (s.heard : Int), .bool false, .slice none 0 0] 31 (0, 0)) by rw [hw2]; exact heap_alloc_new w1 _)
  have HB2 := hid (show Below w1.heap.size w1 w2 by rw [hw2]; exact below_dr ((Below.refl _ _).alloc (Nat.le_refl _) _))
  have hs2 : w2.heap.size = w.heap.size + 2 := by rw [hw2]; show (w1.alloc _).heap.size = _; simp [HS1.out]
  have HS2 := hid hs2
  have HP2 := hid (HP1.out.below HB2.out)
  clear hw2 hs2 d0 d1 d2 d7 hlt1
  obtain ⟨⟨sa, sc, es, hsc1, hsc2⟩, _⟩ := HH.out.shapes
  subst es
  have hil : i < s.all.length := (List.getElem?_eq_some_iff.1 hx).1
  have hal : s.all.length ≤ 1000000 := HH.out.ok.2.1
  rcases owns_shape HH.out.said with ⟨e1, e2⟩ | ⟨g, gc, eg, _⟩
  · rw [HH.out.len] at e2; omega
  simp only [Value.slice.injEq] at eg
  obtain ⟨rfl, -, -⟩ := eg
  obtain ⟨va, vc, hcx, hox, hxl⟩ := HH.out.nth hx
  have HBA := hid (show Below w.heap.size w w2 from HB1.out.trans (HB2.out.mono (by have := HS1.out; omega)))
  have hglt : g < w.heap.size := (World.ownsRow.lt HH.out.said g rfl).2
  have y3 := (HBA.out.cell (p := ⟨b, 3, none⟩) hlt).trans HH.out.cells.2.2.2.1
  have ym := (HBA.out.cell (p := ⟨g, i, none⟩) hglt).trans hcx
  have HE := hid (Own.empty w2 w2.heap.size (Nat.le_refl _))
  have HRE := hid ((hox.rd.below HBA.out).alloc (.cells #[] 5))
  have hAl : Below w2.heap.size w2 (w2.alloc (.cells #[] 5)) := (Below.refl _ _).alloc (Nat.le_refl _) _
  have z3 := (hAl.cell (p := ⟨b, 3, none⟩) (show b < w2.heap.size by have := HS2.out; omega)).trans y3
  have zm := (hAl.cell (p := ⟨g, i, none⟩) (show g < w2.heap.size by have := HS2.out; omega)).trans ym
  have hi1 : (i : Int) < (s.all.length : Int) := by omega
  have hi2 : (i : Int) ≤ 1000000 := by omega
  have hi0 : (0 : Int) ≤ (i : Int) := by omega
  have HXL := hid hxl
  have HAPP := hid (show ∀ w5, (w2.alloc (.cells #[] 5)).grownBy w5 (Value.slice (some ⟨w2.heap.size, 0, none⟩) 0 0).ownBlock → Below w2.heap.size w2 w5 from fun w5 hg => ((Below.refl _ _).alloc (Nat.le_refl _) _).grown hg (by simp) (fun k hk => by have := (HE.out.lt k hk).1; omega))
  clear hcx hox hxl hAl hx hil hal
  go_wp2_with (first
    | (at_builtin; (refine appk rfl (.tmp 28) (.tmp 35) rfl w2.heap.size (.slice (some ⟨w2.heap.size, 0, none⟩) 0 0) _ [] x.t x.t x.t.length rfl rfl HE.out HRE.out (by simp) rfl (by have := HXL.out; simp; omega) (by simp) ?_); intro ad cp w5 ho hg
       have HO := hid ho
       have HB5 := hid (HAPP.out w5 hg)
       have HR5 := hid (show w5.heap[w1.heap.size]? = _ from (HB5.out.block w1.heap.size (by have := HS2.out; have := HS1.out; omega)).trans HR2.out)
       have f5 : ∀ j, w5.frozen? ⟨w1.heap.size, j, none⟩ = false := fun j => frozen_of_row _ _ _ _ _ HR5.out
       have q3 : w5.cell? ⟨w1.heap.size, 3, none⟩ = some (.int .u32 0) := (cell_of_row _ _ _ _ _ _ HR5.out).trans rfl
       have q6 : w5.cell? ⟨w1.heap.size, 6, none⟩ = some (.slice none 0 0) := (cell_of_row _ _ _ _ _ _ HR5.out).trans rfl
       have HR7 := hid (show ((w5.setCell ⟨w1.heap.size, 3, none⟩ (.int .u32 ((i : Int) + 1))).setCell ⟨w1.heap.size, 6, none⟩ (.slice ad x.t.length cp)).heap[w1.heap.size]? = some (.cells #[.int .u8 s.node, .int .u32 s.epoch, .int .u32 s.life, .int .u32 ((i : Int) + 1), .int .u32 (s.heard : Int), .bool false, .slice ad x.t.length cp] 31 (0, 0)) by
         rw [heap_setCell_same _ _ _ _ _ _ (heap_setCell_same _ _ _ _ _ _ HR5.out)]; simp)
       have HK7 := hid ((kset w5 w1.heap.size 3 (.int .u32 ((i : Int) + 1))).trans (kset (w5.setCell ⟨w1.heap.size, 3, none⟩ (.int .u32 ((i : Int) + 1))) w1.heap.size 6 (.slice ad x.t.length cp)))
       have HP7 := hid ((HP2.out.below HB5.out).of (HK7.out.block w.heap.size (by have := HB5.out.size; have := HS2.out; omega) (by have := HS1.out; omega)))
       clear ho hg)
    | (refine pk_ld rfl (.tmp 5) rfl w1.heap.size rfl _ _ _ _ _ _ _ HR7.out ?_)
    | (refine pk_st rfl (.tmp 4) (.tmp 39) rfl w.heap.size _ _ _ _ _ _ _ rfl rfl HP7.out (by simp [Value.oneCell']) ?_)
    | fail)
  refine bodyPost_ret (results_pk rfl _ _ w.heap.size _ _ _ _ _ _ _ rfl (HP7.out.row _ _ _ _ _ _ _)) rfl ⟨_, _, rfl, ?_, ?_⟩
  · have h1 := HS1.out
    have h2 := HS2.out
    have ho := HO.out
    have h3 : ∀ q, (Value.slice ad x.t.length cp).ownBlock = some q → w2.heap.size ≤ q ∧ q < w5.heap.size := fun q hq => ho.lt q hq
    have kr := setRow_keeps ((w5.setCell ⟨w1.heap.size, 3, none⟩ (.int .u32 ((i : Int) + 1))).setCell ⟨w1.heap.size, 6, none⟩ (.slice ad x.t.length cp)) w.heap.size #[.int .u8 s.node, .int .u32 s.epoch, .int .u32 s.life, .int .u32 ((i : Int) + 1), .int .u32 (s.heard : Int), .bool false, .slice ad x.t.length cp]
    exact ((ho.to (fun q hq => HK7.out.block q (h3 q hq).2 (by have := (h3 q hq).1; omega))).to (fun q hq => kr.block q (Nat.lt_of_lt_of_le (h3 q hq).2 HK7.out.size) (by have := (h3 q hq).1; omega))).base (fun q hq => by have := (h3 q hq).1; omega)
  · have h1 := HS1.out
    have h2 := HS2.out
    have hb : Below w.heap.size w w5 := HBA.out.trans (HB5.out.mono (by omega))
    exact (hb.trans ⟨HK7.out.os, HK7.out.tape, HK7.out.output, HK7.out.size, fun i hi => HK7.out.block i (by have := HB5.out.size; omega) (by omega)⟩).trans (setRow_below _ (Nat.le_refl _))

end Go.Proofs.Ytjpojlkdogaalaa
