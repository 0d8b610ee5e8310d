/-
  A heap's Change.
-/
import Derived.Test.YtcgfechodbmimaaPrJ
namespace Go.Proofs.Ytcgfechodbmimaa
open Go.RowKit Go.ChangeMaps
set_option linter.unusedVariables false
set_option linter.unusedSimpArgs false

theorem set_fst {q : List It} {k : Nat} {x : It} (hk : k < q.length) (he : (it q k).1 = x.1) : (q.set k x).map Prod.fst = q.map Prod.fst := by
  apply List.ext_getElem?
  intro i
  rw [List.getElem?_map, List.getElem?_map, List.getElem?_set]
  by_cases e : k = i
  · subst e
    rw [if_pos rfl, if_pos hk, it_some hk]
    exact congrArg some he.symm
  · rw [if_neg e]

theorem plc_fst (q : List It) (z : Int) : plc q z = (q.map Prod.fst).findIdx? fun y => y == z := by
  unfold plc
  rw [List.findIdx?_map]
  rfl

theorem plc_set {q : List It} {k : Nat} {x : It} (hk : k < q.length) (he : (it q k).1 = x.1) : plc (q.set k x) = plc q := by
  funext z
  rw [plc_fst, plc_fst, set_fst hk he]

theorem RwAt.put3 {w : World} {lo b g c : Nat} {m : Nat} {q : List It} (h : RwAt w lo b (.slice (some ⟨g, 0, none⟩) q.length c) m q) (hgb : g ≠ b) (hgm : g ≠ m) {k : Nat} {x : It} (hx : kw x.1) (hk : k < q.length) (he : (it q k).1 = x.1) :
    RwAt (set3 w g (k * 3) (.int .u32 x.1) (.int .u8 x.2.1) (.int .u32 x.2.2)) lo b (.slice (some ⟨g, 0, none⟩) q.length c) m (q.set k x) where
  blk := (set3_other _ g (k * 3) b _ _ _ (Ne.symm hgb)).trans h.blk
  own := by rw [List.length_set]; exact stored3 h.own hk x
  mp := by rw [List.length_set, plc_set hk he]; exact h.mp.block (set3_other _ g (k * 3) m _ _ _ (Ne.symm hgm))
  lob := h.lob
  lom := h.lom
  ok := fun y hy => by
    rcases List.mem_or_eq_of_mem_set hy with h1 | rfl
    · exact h.ok y h1
    · exact hx
  ids := by unfold IdsApart; rw [set_fst hk he]; exact h.ids
  len := by rw [List.length_set]; exact h.len

theorem it_set {q : List It} {k i : Nat} {x : It} (hi : i ≠ k) : it (q.set k x) i = it q i := by
  unfold it
  rw [List.getD_eq_getElem?_getD, List.getD_eq_getElem?_getD, List.getElem?_set, if_neg (Ne.symm hi)]

set_option maxRecDepth 100000 in
set_option maxHeartbeats 4000000 in
theorem change11_yes (w : World) (lo b m : Nat) (v : Value) (q : List It) (x : It) (k : Nat) (h : RwAt w lo b v m q) (hh : HeapN q q.length) (hx : kw x.1) (hk : plc q x.1 = some k) :
    Calls Try.prog 12 #[.pointer (some ⟨b, 0, none⟩), itv x] w fun e w' => e = .returned (.int .i64 0) ∧ ∃ q', RwAt w' lo b v m q' ∧ HeapN q' q'.length ∧ q'.Perm (q.set k x) ∧ Keeps (Hb b m v) w w' := by
  obtain ⟨x0, x1, x2⟩ := x
  unfold itv
  dsimp only at *
  have HHS := hid (fun W hR => by have h1 := has11_any W lo b m v q x0 hR hx; rw [hk] at h1; exact h1)
  obtain ⟨hkl, hki⟩ := (plc_some h.ids).1 hk
  obtain ⟨g, c, rfl, hg1, hg2, hgb, hgm, hc1, hc2⟩ := h.own' hkl
  obtain ⟨w1, hw1⟩ : ∃ w1, w1 = w.alloc (.cells #[.int .u32 x0, .int .u8 x1, .int .u32 x2] 32) := ⟨_, rfl⟩
  have hb1 : Below w.heap.size w w1 := by rw [hw1]; exact (Below.refl _ w).alloc (Nat.le_refl _) _
  have hbox : w1.heap[w.heap.size]? = some (.cells #[.int .u32 x0, .int .u8 x1, .int .u32 x2] 32 (0, 0)) := by rw [hw1]; exact heap_alloc_new w _
  have hr1 := h.below hb1
  have HR1 := hid hr1
  have HB1 := hid hb1
  have HW1 := hid hw1
  have hlk := (hr1.below (Below.refl _ _).drew).mp.look1 hx hk
  have c0 : w1.cell? ⟨b, 0, none⟩ = some (.slice (some ⟨g, 0, none⟩) q.length c) := (cell_of_row w1 _ _ _ _ _ hr1.blk).trans rfl
  have c1 : w1.cell? ⟨b, 1, none⟩ = some (.map (some m)) := (cell_of_row w1 _ _ _ _ _ hr1.blk).trans rfl
  have e0 : w1.cell? ⟨w.heap.size, 0, none⟩ = some (.int .u32 x0) := (cell_of_row w1 _ _ _ _ _ hbox).trans rfl
  have e1 : w1.cell? ⟨w.heap.size, 1, none⟩ = some (.int .u8 x1) := (cell_of_row w1 _ _ _ _ _ hbox).trans rfl
  have e2 : w1.cell? ⟨w.heap.size, 2, none⟩ = some (.int .u32 x2) := (cell_of_row w1 _ _ _ _ _ hbox).trans rfl
  obtain ⟨i0, i1, i2, y0, y1, y2⟩ := own_item hr1.own hkl
  have HOI := hid (And.intro i0 (And.intro i1 i2))
  have HFZ := hid (fun j (_ : j < 3) => show w1.frozen? ⟨g, k * 3 + j, none⟩ = false from owns_frozen hr1.own _)
  clear i0 i1 i2 y0 y1 y2
  have HKL := hid hkl
  have HKI := hid hki
  have HX := hid hx
  have HHH := hid hh
  have HGB := hid (And.intro hgb hgm)
  obtain ⟨n, hn⟩ : ∃ n, n = q.length := ⟨_, rfl⟩
  rw [← hn] at c0
  have hkn : (k : Int) < (n : Int) := by omega
  have HNN := hid hn
  have hkc : k < n := by omega
  clear h hh hx hk hkl hki hr1 hb1 hbox hgb hgm hg1 hg2 hn hw1
  go_enter Try.func12, Try.ntmps12
  go_upto_region 3 with (first
    | (go_at_call 14; (with_reducible refine (HHS.out _ (by rw [← HW1.out]; exact HR1.out)).mono ?_); rintro e w2 ⟨rfl, rfl⟩)
    | fail)
  rw [← HW1.out]
  have C1 : w1.drew.cell? ⟨b, 1, none⟩ = some (.map (some m)) := c1
  have E0 : w1.drew.cell? ⟨w.heap.size, 0, none⟩ = some (.int .u32 x0) := e0
  go_region_held3 (fun w' => w'.cell? ⟨b, 1, none⟩ = some (.map (some m)) ∧ w'.cell? ⟨w.heap.size, 0, none⟩ = some (.int .u32 x0)) (first | (with_reducible refine ⟨?_, ?_⟩ <;> assumption) | fail)
    (fail)
  obtain ⟨wd, hwd⟩ : ∃ wd, wd = w1.drew := ⟨_, rfl⟩
  have HWD := hid hwd
  have A0 : w1.drew.cell? ⟨b, 0, none⟩ = some (.slice (some ⟨g, 0, none⟩) n c) := c0
  have A3 : w1.drew.cell? ⟨w.heap.size, 0, none⟩ = some (.int .u32 x0) := e0
  have A4 : w1.drew.cell? ⟨w.heap.size, 1, none⟩ = some (.int .u8 x1) := e1
  have A5 : w1.drew.cell? ⟨w.heap.size, 2, none⟩ = some (.int .u32 x2) := e2
  rw [← hwd] at A0 A3 A4 A5 ⊢
  clear hwd c0 e0 e1 e2 C1 E0 c1 hlk
  go_upto_region 4 with (fail)
  go_still_tail 8, (by kernel_rfl)
  change wpList _ _ _ _ _ wd.drew
  obtain ⟨w5, hw5⟩ : ∃ w5, w5 = wd.drew := ⟨_, rfl⟩
  rw [← hw5]
  rw [HWD.out] at hw5
  have F0 : w5.frozen? ⟨g, k * 3, none⟩ = false := by rw [hw5]; exact (HFZ.out 0 (by omega))
  have F1 : w5.frozen? ⟨g, k * 3 + 1, none⟩ = false := by rw [hw5]; exact (HFZ.out 1 (by omega))
  have F2 : w5.frozen? ⟨g, k * 3 + 2, none⟩ = false := by rw [hw5]; exact (HFZ.out 2 (by omega))
  have G0 : w5.cell? ⟨g, k * 3, none⟩ = some (.int .u32 (it q k).1) := by rw [hw5]; exact HOI.out.1
  have G1 : w5.cell? ⟨g, k * 3 + 1, none⟩ = some (.int .u8 (it q k).2.1) := by rw [hw5]; exact HOI.out.2.1
  have G2 : w5.cell? ⟨g, k * 3 + 2, none⟩ = some (.int .u32 (it q k).2.2) := by rw [hw5]; exact HOI.out.2.2
  have HR5 := hid (show RwAt w5 lo b (.slice (some ⟨g, 0, none⟩) q.length c) m q by rw [hw5]; exact HR1.out.below (Below.refl _ _).drew.drew)
  have HB5 := hid (show Below w.heap.size w w5 by rw [hw5]; exact HB1.out.drew.drew)
  clear hw5 A0 A3 A4 A5
  go_upto_region 5 with (fail)
  obtain ⟨w6, hw6⟩ : ∃ w6, w6 = ((w5.setCell ⟨g, k * 3, none⟩ (.int .u32 x0)).setCell ⟨g, k * 3 + 1, none⟩ (.int .u8 x1)).setCell ⟨g, k * 3 + 2, none⟩ (.int .u32 x2) := ⟨_, rfl⟩
  rw [← hw6]
  have hr6 : RwAt w6 lo b (.slice (some ⟨g, 0, none⟩) q.length c) m (q.set k (x0, x1, x2)) := by rw [hw6]; exact HR5.out.put3 HGB.out.1 HGB.out.2 (x := (x0, x1, x2)) HX.out HKL.out HKI.out
  have hl6 : (q.set k (x0, x1, x2)).length = q.length := List.length_set ..
  have HFIX := hid (hfix_any w6 lo b m _ (q.set k (x0, x1, x2)) k hr6 (by rw [hl6]; exact HKL.out) (any_set (by rw [hl6]; exact HHH.out) (fun i hi e => it_set e)))
  have HK6 := hid (show Keeps (Hb b m (.slice (some ⟨g, 0, none⟩) q.length c)) w w6 by
    rw [hw6]
    exact set3_keeps (Keeps.of_below HB5.out (fun i hi hge => absurd hi (by omega))) g (k * 3) _ _ _ (.inr (.inr rfl)))
  clear hw6 hr6 hl6 F0 F1 F2 G0 G1 G2
  go_wp2_with (first
    | (go_at_call 22; (with_reducible refine HFIX.out.mono ?_); rintro e w7 ⟨rfl, q7, hr7, hh7, hp7, hk7⟩; have HR7 := hid hr7; have HH7 := hid hh7; have HP7 := hid hp7; have HK7 := hid (HK6.out.trans hk7); clear hr7 hh7 hp7 hk7)
    | fail)
  go_ret
  exact ⟨rfl, q7, HR7.out, HH7.out, HP7.out, HK7.out⟩

end Go.Proofs.Ytcgfechodbmimaa
