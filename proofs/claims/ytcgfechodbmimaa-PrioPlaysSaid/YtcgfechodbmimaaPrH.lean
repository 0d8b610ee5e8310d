/-
  slices.SortFunc of items: the library's contract, laid; List: all items in their order.
-/
import Derived.Shelf.SlSortCmp.NoneTotal
import Derived.Test.YtcgfechodbmimaaPrG
namespace Go.Proofs
open Go.Shelf
def Try.sortIt_ren : Go.Shelf.Ren := ⟨fun | 6 => 31 | 15 => 38 | 14 => 37 | 28 => 49 | 29 => 50 | 20 => 41 | 21 => 42 | 22 => 43 | 23 => 44 | 24 => 45 | 25 => 46 | 26 => 47 | 27 => 48 | 46 => 51 | 47 => 52 | 48 => 53 | 49 => 54 | 50 => 55 | 57 => 56 | n => n, fun | 22 => 45 | 24 => 32 | 25 => 65 | 3 => 3 | 39 => 82 | 0 => 0 | 53 => 27 | 55 => 94 | 4 => 4 | 46 => 87 | 45 => 86 | 50 => 60 | 5 => 5 | 9 => 9 | 66 => 95 | 70 => 99 | 76 => 101 | 77 => 102 | n => n, fun | n => n⟩
theorem Try.sortIt : Go.Proofs.SlLaysF0.n6 Try.prog Try.sortIt_ren := {
  mixed := by kernel_rfl
  f6 := ⟨Try.f31.name, by decide, Try.func31.trans (congrArg some (by kernel_rfl))⟩
  f14 := ⟨Try.f37.name, by decide, Try.func37.trans (congrArg some (by kernel_rfl))⟩
  f15 := Try.func38.trans (congrArg some (by kernel_rfl))
  f20 := ⟨Try.f41.name, by decide, Try.func41.trans (congrArg some (by kernel_rfl))⟩
  f21 := ⟨Try.f42.name, by decide, Try.func42.trans (congrArg some (by kernel_rfl))⟩
  f22 := ⟨Try.f43.name, by decide, Try.func43.trans (congrArg some (by kernel_rfl))⟩
  f23 := ⟨Try.f44.name, by decide, Try.func44.trans (congrArg some (by kernel_rfl))⟩
  f24 := ⟨Try.f45.name, by decide, Try.func45.trans (congrArg some (by kernel_rfl))⟩
  f25 := ⟨Try.f46.name, by decide, Try.func46.trans (congrArg some (by kernel_rfl))⟩
  f26 := ⟨Try.f47.name, by decide, Try.func47.trans (congrArg some (by kernel_rfl))⟩
  f27 := ⟨Try.f48.name, by decide, Try.func48.trans (congrArg some (by kernel_rfl))⟩
  f28 := Try.func49.trans (congrArg some (by kernel_rfl))
  f29 := Try.func50.trans (congrArg some (by kernel_rfl))
  f46 := ⟨Try.f51.name, by decide, Try.func51.trans (congrArg some (by kernel_rfl))⟩
  f47 := Try.func52.trans (congrArg some (by kernel_rfl))
  f48 := Try.func53.trans (congrArg some (by kernel_rfl))
  f49 := ⟨Try.f54.name, by decide, Try.func54.trans (congrArg some (by kernel_rfl))⟩
  f50 := ⟨Try.f55.name, by decide, Try.func55.trans (congrArg some (by kernel_rfl))⟩
  f57 := ⟨Try.f56.name, by decide, Try.func56.trans (congrArg some (by kernel_rfl))⟩
  t0 := Try.underlying0
  a0 := Try.isAgg0
  z0 := Try.sizeOf0
  v0 := Try.zeroValue0
  t3 := Try.underlying3
  a3 := Try.isAgg3
  z3 := Try.sizeOf3
  v3 := Try.zeroValue3
  t4 := Try.underlying4
  a4 := Try.isAgg4
  z4 := Try.sizeOf4
  v4 := Try.zeroValue4
  t5 := Try.underlying5
  a5 := Try.isAgg5
  z5 := Try.sizeOf5
  v5 := Try.zeroValue5
  t9 := Try.underlying9
  a9 := Try.isAgg9
  z9 := Try.sizeOf9
  v9 := Try.zeroValue9
  t22 := Try.underlying45
  a22 := Try.isAgg45
  z22 := Try.sizeOf45
  v22 := Try.zeroValue45
  t25 := Try.underlying65
  a25 := Try.isAgg65
  z25 := Try.sizeOf65
  v25 := Try.zeroValue65
  t39 := Try.underlying82
  a39 := Try.isAgg82
  z39 := Try.sizeOf82
  v39 := Try.zeroValue82
  t45 := Try.underlying86
  a45 := Try.isAgg86
  z45 := Try.sizeOf86
  v45 := Try.zeroValue86
  t46 := Try.underlying87
  a46 := Try.isAgg87
  z46 := Try.sizeOf87
  v46 := Try.zeroValue87
  t50 := Try.underlying60
  a50 := Try.isAgg60
  z50 := Try.sizeOf60
  v50 := Try.zeroValue60
  t53 := Try.underlying27
  a53 := Try.isAgg27
  z53 := Try.sizeOf27
  v53 := Try.zeroValue27
  t55 := Try.underlying94
  a55 := Try.isAgg94
  z55 := Try.sizeOf94
  v55 := Try.zeroValue94
  t66 := Try.underlying95
  a66 := Try.isAgg95
  z66 := Try.sizeOf95
  v66 := Try.zeroValue95
  t70 := Try.underlying99
  a70 := Try.isAgg99
  z70 := Try.sizeOf99
  v70 := Try.zeroValue99
  t76 := Try.underlying101
  a76 := Try.isAgg101
  z76 := Try.sizeOf101
  v76 := Try.zeroValue101
  t77 := Try.underlying102
  a77 := Try.isAgg102
  z77 := Try.sizeOf102
  v77 := Try.zeroValue102 }
end Go.Proofs

namespace Go.Proofs.Ytcgfechodbmimaa
open Go.RowKit Go.Shelf Go.Sort
set_option linter.unusedVariables false
set_option linter.unusedSimpArgs false

set_option maxRecDepth 100000 in
set_option maxHeartbeats 4000000 in
theorem or_grw (w : World) (g n : Nat) (l : List Int) (hn : n = l.length) (hl : n ≤ 1000) (h : ∀ k x, l[k]? = some x → w.cell? ⟨g, k, none⟩ = some (.int .i64 x)) :
    Calls Try.prog 33 #[.slice (some ⟨g, 0, none⟩) n n] w fun e w' => e = .returned (.int .i64 (orL l)) ∧ Below w.heap.size w w' ∧ w.drawn ≤ w'.drawn := by
  have HC := hid h
  have HN := hid hn
  clear h hn
  go_enter Try.func33, Try.ntmps33
  go_wp2_with fail
  go_loopw [8] (fun i wr => ∃ k : Nat, k ≤ n ∧ i = .int .i64 k ∧ orL (l.drop k) = orL l ∧ Below w.heap.size w wr ∧ w.drawn ≤ wr.drawn) (fun i _ => n - (intOf i).toNat)
  case atStart => exact ⟨0, Nat.zero_le _, rfl, rfl, Below.refl _ _, Nat.le_refl _⟩
  case round =>
    obtain ⟨k, hk, rfl, ho, hB, hdr⟩ := hrel
    have HDR := hid hdr
    clear hdr
    have HO := hid ho
    have HB := hid hB
    by_cases hlt : k < n
    · obtain ⟨x, hx⟩ : ∃ x, l[k]? = some x := ⟨_, List.getElem?_eq_getElem (by have := HN.out; omega)⟩
      have hc0 := HC.out k x hx
      have hc : wr.cell? ⟨g, k, none⟩ = some (.int .i64 x) := (hB.cell (p := ⟨g, k, none⟩) (World.block_lt_of_cell? _ _ hc0)).trans hc0
      have hki : (k : Int) < (n : Int) := by omega
      have HD := hid (orL_drop hx)
      clear hc0 ho hB hx
      by_cases h0 : x = 0
      · have d : decide (x = 0) = true := decide_eq_true h0
        have HD2 := hid (show orL (l.drop (k + 1)) = orL l by rw [← HO.out, HD.out, if_neg (by simpa using h0)])
        subst h0
        go_wp2_with fail
        go_roundw
        case rel => exact ⟨k + 1, hlt, by go_num, HD2.out, HB.out, HDR.out⟩
        case measure => simp [intOf]; omega
      · have d : (x != 0) = true := by simpa using h0
        have HD2 := hid (show x = orL l by rw [← HO.out, HD.out, if_pos h0])
        clear h0
        go_wp2_with fail
        go_ret
        exact ⟨by rw [← HD2.out]; rfl, HB.out, HDR.out⟩
    · have e : k = n := by omega
      have hki : ¬ (k : Int) < (n : Int) := by omega
      have HD2 := hid (show orL l = 0 by rw [← ho, e, HN.out, List.drop_length]; rfl)
      clear e hlt ho hB
      go_wp2_with fail
      go_ret
      exact ⟨by rw [HD2.out]; rfl, HB.out, HDR.out⟩
set_option maxRecDepth 100000 in
set_option maxHeartbeats 8000000 in
theorem order_grw (w : World) (a b : It) : Calls Try.prog 26 #[itv a, itv b] w fun e w' => e = .returned (.int .i64 (ordI a b)) ∧ Below w.heap.size w w' ∧ w.drawn ≤ w'.drawn := by
  have HO := hid (orL_ord a b)
  obtain ⟨i, t, s⟩ := a
  obtain ⟨j, u, r⟩ := b
  unfold itv
  dsimp only at *
  generalize ordI (i, t, s) (j, u, r) = O at *
  go_enter Try.func26, Try.ntmps26
  go_wp2_with fail
  obtain ⟨x1, hx1⟩ : ∃ x1, x1 = w.alloc (.cells #[.int .u32 i, .int .u8 t, .int .u32 s] 32) := ⟨_, rfl⟩
  obtain ⟨x2, hx2⟩ : ∃ x2, x2 = x1.alloc (.cells #[.int .u32 j, .int .u8 u, .int .u32 r] 32) := ⟨_, rfl⟩
  have hs1 : x1.heap.size = w.heap.size + 1 := by rw [hx1]; simp
  have hs2 : x2.heap.size = w.heap.size + 2 := by rw [hx2]; simp [hs1]
  have hb1 : Below w.heap.size w x1 := by rw [hx1]; exact (Below.refl _ w).alloc (Nat.le_refl _) _
  have hb2 : Below x1.heap.size x1 x2 := by rw [hx2]; exact (Below.refl _ x1).alloc (Nat.le_refl _) _
  have g1 : x2.heap[w.heap.size]? = some (.cells #[.int .u32 i, .int .u8 t, .int .u32 s] 32 (0, 0)) := (hb2.block _ (by omega)).trans (by rw [hx1]; exact heap_alloc_new w _)
  have g2 : x2.heap[w.heap.size + 1]? = some (.cells #[.int .u32 j, .int .u8 u, .int .u32 r] 32 (0, 0)) := by rw [hx2, ← hs1]; exact heap_alloc_new x1 _
  have HB2 := hid (hb1.trans (hb2.mono (by omega)))
  have HDX := hid (show x2.drawn = w.drawn by rw [hx2, hx1]; rfl)
  rw [← hx1, ← hx2]
  have c0 : x2.drew.cell? ⟨w.heap.size, 0, none⟩ = some (.int .u32 i) := (cell_of_row x2 _ _ _ _ _ g1).trans rfl
  have c1 : x2.drew.cell? ⟨w.heap.size, 1, none⟩ = some (.int .u8 t) := (cell_of_row x2 _ _ _ _ _ g1).trans rfl
  have c2 : x2.drew.cell? ⟨w.heap.size, 2, none⟩ = some (.int .u32 s) := (cell_of_row x2 _ _ _ _ _ g1).trans rfl
  have d0 : x2.drew.cell? ⟨w.heap.size + 1, 0, none⟩ = some (.int .u32 j) := (cell_of_row x2 _ _ _ _ _ g2).trans rfl
  have d1 : x2.drew.cell? ⟨w.heap.size + 1, 1, none⟩ = some (.int .u8 u) := (cell_of_row x2 _ _ _ _ _ g2).trans rfl
  have d2 : x2.drew.cell? ⟨w.heap.size + 1, 2, none⟩ = some (.int .u32 r) := (cell_of_row x2 _ _ _ _ _ g2).trans rfl
  have HN3 := hid (fun (cs : Array Value) => show (x2.alloc (.cells cs 3)).drew.heap[w.heap.size + 2]? = some (.cells cs 3 (0, 0)) by rw [← hs2]; exact heap_alloc_new x2 _)
  clear hx1 hx2 hb1 hb2 g1 g2 hs1
  go_region_held3 (fun w' => w'.cell? ⟨w.heap.size, 0, none⟩ = some (.int .u32 i) ∧ w'.cell? ⟨w.heap.size, 1, none⟩ = some (.int .u8 t) ∧ w'.cell? ⟨w.heap.size, 2, none⟩ = some (.int .u32 s) ∧ w'.cell? ⟨w.heap.size + 1, 0, none⟩ = some (.int .u32 j) ∧ w'.cell? ⟨w.heap.size + 1, 1, none⟩ = some (.int .u8 u) ∧ w'.cell? ⟨w.heap.size + 1, 2, none⟩ = some (.int .u32 r))
    (first | (with_reducible refine ⟨?_, ?_, ?_, ?_, ?_, ?_⟩ <;> assumption) | (with_reducible refine ⟨(alloc_cellcd _ _ _ _ ?_).trans ?_, (alloc_cellcd _ _ _ _ ?_).trans ?_, (alloc_cellcd _ _ _ _ ?_).trans ?_, (alloc_cellcd _ _ _ _ ?_).trans ?_, (alloc_cellcd _ _ _ _ ?_).trans ?_, (alloc_cellcd _ _ _ _ ?_).trans ?_⟩ <;> first | assumption | omega) | fail)
    (first
      | (go_at_call 34; refine (cmpb_any _ _ _).mono ?_; rintro e w' ⟨rfl, rfl⟩)
      | (go_at_call 35; refine (cmpw_any _ _ _).mono ?_; rintro e w' ⟨rfl, rfl⟩)
      | (go_at_call 33; refine (or_grw _ _ 3 [cmp3 u t, cmp3 s r, cmp3 i j] rfl (by omega) (by intro k x hk; rw [cell_of_row _ _ _ _ _ _ (HN3.out _)]; match k, hk with | 0, hk => (cases hk; rfl) | 1, hk => (cases hk; rfl) | 2, hk => (cases hk; rfl) | k + 3, hk => cases hk)).mono ?_; rintro e y ⟨rfl, hy, hyd⟩; have HYD := hid (show x2.drawn ≤ y.drawn from Nat.le_trans (Nat.le_succ _) hyd); clear hyd; rw [HO.out]; have HY := hid (((Below.refl _ x2).alloc (Nat.le_refl _) _).drew.trans (hy.mono (by show x2.heap.size ≤ (x2.alloc _).heap.size; rw [World.size_alloc]; omega))); have r0 := (HY.out.cell (p := ⟨w.heap.size, 0, none⟩) (by show w.heap.size < x2.heap.size; omega)).trans c0; have r1 := (HY.out.cell (p := ⟨w.heap.size, 1, none⟩) (by show w.heap.size < x2.heap.size; omega)).trans c1; have r2 := (HY.out.cell (p := ⟨w.heap.size, 2, none⟩) (by show w.heap.size < x2.heap.size; omega)).trans c2; have r3 := (HY.out.cell (p := ⟨w.heap.size + 1, 0, none⟩) (by show w.heap.size + 1 < x2.heap.size; omega)).trans d0; have r4 := (HY.out.cell (p := ⟨w.heap.size + 1, 1, none⟩) (by show w.heap.size + 1 < x2.heap.size; omega)).trans d1; have r5 := (HY.out.cell (p := ⟨w.heap.size + 1, 2, none⟩) (by show w.heap.size + 1 < x2.heap.size; omega)).trans d2; clear hy)
      | fail)
  go_wp2
  go_ret
  exact ⟨rfl, HB2.out.trans (HY.out.mono (by omega)), by rw [← HDX.out]; exact HYD.out⟩

/-- What has grown is what it was, with more behind it. -/
theorem grow_of {w w' : World} (h : Below w.heap.size w w') (hd : w.drawn ≤ w'.drawn) : ∃ q os, w' = Go.Sort.grow (w.drewN q) os := by
  refine ⟨w'.drawn - w.drawn, w'.heap.extract w.heap.size w'.heap.size, ?_⟩
  have hs := h.size
  have hh : w'.heap = w.heap ++ w'.heap.extract w.heap.size w'.heap.size := by
    apply Array.ext_getElem?
    intro i
    by_cases hi : i < w.heap.size
    · rw [Array.getElem?_append_left hi]
      exact h.block i hi
    · rw [Array.getElem?_append_right (by omega), Array.getElem?_extract]
      by_cases h2 : i < w'.heap.size
      · rw [if_pos (by omega), show w.heap.size + (i - w.heap.size) = i by omega]
      · rw [if_neg (by omega), Array.getElem?_eq_none (by omega)]
  have h1 := h.os
  have h2 := h.tape
  have h3 := h.output
  cases w' with
  | mk heap' tape' drawn' os' output' =>
    cases w with
    | mk heap tape drawn os output =>
      simp only at *
      unfold Go.Sort.grow World.drewN
      simp only [World.mk.injEq]
      exact ⟨hh, h2, by omega, h1, h3⟩

theorem cel_len (x : It) : (cel x).length = 3 := rfl
theorem cel_one (x : It) : ∀ v ∈ cel x, v.oneCell' = true := by
  intro v hv
  unfold cel at hv
  simp only [List.mem_cons, List.not_mem_nil, or_false] at hv
  rcases hv with rfl | rfl | rfl <;> rfl

theorem cmp_lays (blk off size : Nat) (w : World) : CmpLays Try.prog 26 #[] cel 3 ordI blk off size w := fun m os dk hs x y =>
  (order_grw _ x y).mono fun e w' h => ⟨h.1, grow_of h.2.1 h.2.2⟩

theorem lt_ord (a b : It) : ltOf ordI a b = decide (Bef a b) := by
  unfold ltOf
  exact decide_eq_decide.2 (ordI_bef a b)

theorem swo_ord : SWO (ltOf ordI) where
  irrefl x := by rw [lt_ord]; exact decide_eq_false (bef_irr x)
  trans x y z h1 h2 := by rw [lt_ord] at *; exact decide_eq_true (bef_trans (of_decide_eq_true h1) (of_decide_eq_true h2))
  ntrans x y z h1 h2 := by rw [lt_ord] at *; exact decide_eq_false (bef_neg (of_decide_eq_false h1) (of_decide_eq_false h2))

theorem flat_cels (q : List It) : flatK cel 3 q.toArray = (cels q).toArray := by
  apply Array.ext_getElem?
  intro t
  by_cases ht : t < q.length * 3
  · have h1 : t / 3 < q.length := by omega
    have hg := get_flatK cel 3 q.toArray t (by simpa using ht)
    have hsz : t < (flatK cel 3 q.toArray).size := by rw [size_flatK]; simpa using ht
    rw [Array.getElem?_eq_getElem hsz]
    rw [getElem!_pos _ t hsz] at hg
    rw [hg]
    have hit : q.toArray[t / 3]! = it q (t / 3) := by
      rw [getElem!_pos _ _ (by simpa using h1)]
      have := it_some (q := q) h1
      rw [List.getElem?_eq_getElem h1] at this
      simpa using Option.some.inj this
    rw [hit]
    have hm : t % 3 < (cel (it q (t / 3))).length := by rw [cel_len]; omega
    have hc := cels_at q (t / 3) (t % 3) _ h1 (List.getElem?_eq_getElem (l := cel (it q (t / 3))) hm)
    rw [show t / 3 * 3 + t % 3 = t by omega] at hc
    rw [List.getElem?_toArray, hc, getElem!_pos (cel (it q (t / 3))) (t % 3) hm]
  · rw [Array.getElem?_eq_none (by rw [size_flatK]; simpa using ht), Array.getElem?_eq_none (by rw [List.size_toArray, cels_len]; omega)]

/-- The items in their order. -/
def inOrder (q : List It) : List It := q.mergeSort fun x y => !(ltOf ordI) y x

theorem inOrder_perm (q : List It) : (inOrder q).Perm q := List.mergeSort_perm _ _

theorem inOrder_sorted (q : List It) (h : IdsApart q) : (inOrder q).Pairwise Bef := by
  have hs : (inOrder q).Pairwise (fun a b => (!(ltOf ordI) b a) = true) := List.pairwise_mergeSort (fun a b c h1 h2 => by
    simp only [Bool.not_eq_true'] at *
    exact swo_ord.ntrans _ _ _ h2 h1) (fun a b => by
    simp only [Bool.or_eq_true, Bool.not_eq_true']
    rw [lt_ord, lt_ord]
    by_cases hb : Bef b a
    · exact .inr (decide_eq_false (bef_asym hb))
    · exact .inl (decide_eq_false hb)) q
  have hnd : (inOrder q).Pairwise (fun a b => a ≠ b) := by
    have := (h.perm (inOrder_perm q).symm)
    unfold IdsApart at this
    exact (List.Pairwise.of_map Prod.fst (fun a b hab e => hab (by rw [e])) this)
  refine (hs.and hnd).imp ?_
  rintro a b ⟨h1, h2⟩
  simp only [Bool.not_eq_true'] at h1
  rw [lt_ord] at h1
  rcases bef_total h2 with hb | hb
  · exact hb
  · exact absurd hb (of_decide_eq_false h1)

end Go.Proofs.Ytcgfechodbmimaa
