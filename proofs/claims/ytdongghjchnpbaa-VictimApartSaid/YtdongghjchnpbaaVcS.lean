/-
  slices.SortFunc of Cands: the library's contract, laid.
-/
import Derived.Shelf.SlSortCmp.NoneTotal
import Derived.Test.YtdongghjchnpbaaVcC
namespace Go.Proofs
open Go.Shelf
def Try.sortIt_ren : Go.Shelf.Ren := ⟨fun | 6 => 79 | 15 => 74 | 14 => 96 | 28 => 94 | 29 => 95 | 20 => 104 | 21 => 105 | 22 => 106 | 23 => 107 | 24 => 108 | 25 => 109 | 26 => 110 | 27 => 111 | 46 => 113 | 47 => 100 | 48 => 101 | 49 => 114 | 50 => 115 | 57 => 116 | n => n, fun | 22 => 56 | 24 => 80 | 25 => 139 | 3 => 3 | 39 => 132 | 0 => 0 | 53 => 33 | 55 => 150 | 4 => 4 | 46 => 142 | 45 => 141 | 50 => 81 | 5 => 5 | 9 => 9 | 66 => 153 | 70 => 157 | 76 => 164 | 77 => 96 | n => n, fun | n => n⟩
theorem Try.sortIt : Go.Proofs.SlLaysF0.n6 Try.prog Try.sortIt_ren := {
  mixed := by kernel_rfl
  f6 := ⟨Try.f79.name, by decide, Try.func79.trans (congrArg some (by kernel_rfl))⟩
  f14 := ⟨Try.f96.name, by decide, Try.func96.trans (congrArg some (by kernel_rfl))⟩
  f15 := Try.func74.trans (congrArg some (by kernel_rfl))
  f20 := ⟨Try.f104.name, by decide, Try.func104.trans (congrArg some (by kernel_rfl))⟩
  f21 := ⟨Try.f105.name, by decide, Try.func105.trans (congrArg some (by kernel_rfl))⟩
  f22 := ⟨Try.f106.name, by decide, Try.func106.trans (congrArg some (by kernel_rfl))⟩
  f23 := ⟨Try.f107.name, by decide, Try.func107.trans (congrArg some (by kernel_rfl))⟩
  f24 := ⟨Try.f108.name, by decide, Try.func108.trans (congrArg some (by kernel_rfl))⟩
  f25 := ⟨Try.f109.name, by decide, Try.func109.trans (congrArg some (by kernel_rfl))⟩
  f26 := ⟨Try.f110.name, by decide, Try.func110.trans (congrArg some (by kernel_rfl))⟩
  f27 := ⟨Try.f111.name, by decide, Try.func111.trans (congrArg some (by kernel_rfl))⟩
  f28 := Try.func94.trans (congrArg some (by kernel_rfl))
  f29 := Try.func95.trans (congrArg some (by kernel_rfl))
  f46 := ⟨Try.f113.name, by decide, Try.func113.trans (congrArg some (by kernel_rfl))⟩
  f47 := Try.func100.trans (congrArg some (by kernel_rfl))
  f48 := Try.func101.trans (congrArg some (by kernel_rfl))
  f49 := ⟨Try.f114.name, by decide, Try.func114.trans (congrArg some (by kernel_rfl))⟩
  f50 := ⟨Try.f115.name, by decide, Try.func115.trans (congrArg some (by kernel_rfl))⟩
  f57 := ⟨Try.f116.name, by decide, Try.func116.trans (congrArg some (by kernel_rfl))⟩
  t0 := Try.underlying0
  a0 := Try.isAgg0
  z0 := Try.sizeOf0
  v0 := Try.zeroValue0
  t3 := Try.underlying3
  a3 := Try.isAgg3
  z3 := Try.sizeOf3
  v3 := Try.zeroValue3
  t4 := Try.underlying4
  a4 := Try.isAgg4
  z4 := Try.sizeOf4
  v4 := Try.zeroValue4
  t5 := Try.underlying5
  a5 := Try.isAgg5
  z5 := Try.sizeOf5
  v5 := Try.zeroValue5
  t9 := Try.underlying9
  a9 := Try.isAgg9
  z9 := Try.sizeOf9
  v9 := Try.zeroValue9
  t22 := Try.underlying56
  a22 := Try.isAgg56
  z22 := Try.sizeOf56
  v22 := Try.zeroValue56
  t25 := Try.underlying139
  a25 := Try.isAgg139
  z25 := Try.sizeOf139
  v25 := Try.zeroValue139
  t39 := Try.underlying132
  a39 := Try.isAgg132
  z39 := Try.sizeOf132
  v39 := Try.zeroValue132
  t45 := Try.underlying141
  a45 := Try.isAgg141
  z45 := Try.sizeOf141
  v45 := Try.zeroValue141
  t46 := Try.underlying142
  a46 := Try.isAgg142
  z46 := Try.sizeOf142
  v46 := Try.zeroValue142
  t50 := Try.underlying81
  a50 := Try.isAgg81
  z50 := Try.sizeOf81
  v50 := Try.zeroValue81
  t53 := Try.underlying33
  a53 := Try.isAgg33
  z53 := Try.sizeOf33
  v53 := Try.zeroValue33
  t55 := Try.underlying150
  a55 := Try.isAgg150
  z55 := Try.sizeOf150
  v55 := Try.zeroValue150
  t66 := Try.underlying153
  a66 := Try.isAgg153
  z66 := Try.sizeOf153
  v66 := Try.zeroValue153
  t70 := Try.underlying157
  a70 := Try.isAgg157
  z70 := Try.sizeOf157
  v70 := Try.zeroValue157
  t76 := Try.underlying164
  a76 := Try.isAgg164
  z76 := Try.sizeOf164
  v76 := Try.zeroValue164
  t77 := Try.underlying96
  a77 := Try.isAgg96
  z77 := Try.sizeOf96
  v77 := Try.zeroValue96 }
end Go.Proofs

namespace Go.Proofs.Ytdongghjchnpbaa
open Go.RowKit Go.Shelf Go.Sort
set_option linter.unusedVariables false
set_option linter.unusedSimpArgs false

def cndv (c : Cd) : Value := .agg #[.int .u32 (c.1 : Nat), .int .u8 (c.2 : Nat)]
/-- Below 0, if a goes first. -/
def ordC (a b : Cd) : Int := if cmp3 a.2 b.2 ≠ 0 then cmp3 a.2 b.2 else cmp3 b.1 a.1
theorem ordC_bef (a b : Cd) : ordC a b < 0 ↔ CBef a b := by
  unfold ordC cmp3 CBef
  repeat' split
  all_goals omega
theorem orL_ordC (a b : Cd) : orL [cmp3 a.2 b.2, cmp3 b.1 a.1] = ordC a b := by
  unfold orL orL ordC
  split
  · rfl
  · unfold orL
    split
    · rfl
    · rename_i h; simp only [ne_eq, Decidable.not_not] at h; exact h.symm

set_option maxRecDepth 100000 in
set_option maxHeartbeats 8000000 in
theorem orderC_grw (w : World) (a b : Cd) : Calls Try.prog 80 #[cndv a, cndv b] w fun e w' => e = .returned (.int .i64 (ordC a b)) ∧ Below w.heap.size w w' ∧ w.drawn ≤ w'.drawn := by
  have HO := hid (orL_ordC a b)
  obtain ⟨i, t⟩ := a
  obtain ⟨j, u⟩ := b
  unfold cndv
  dsimp only at *
  generalize ordC (i, t) (j, u) = O at *
  go_enter Try.func80, Try.ntmps80
  go_wp2_with fail
  obtain ⟨x1, hx1⟩ : ∃ x1, x1 = w.alloc (.cells #[.int .u32 (i : Nat), .int .u8 (t : Nat)] 80) := ⟨_, rfl⟩
  obtain ⟨x2, hx2⟩ : ∃ x2, x2 = x1.alloc (.cells #[.int .u32 (j : Nat), .int .u8 (u : Nat)] 80) := ⟨_, rfl⟩
  have hs1 : x1.heap.size = w.heap.size + 1 := by rw [hx1]; simp
  have hs2 : x2.heap.size = w.heap.size + 2 := by rw [hx2]; simp [hs1]
  have hb1 : Below w.heap.size w x1 := by rw [hx1]; exact (Below.refl _ w).alloc (Nat.le_refl _) _
  have hb2 : Below x1.heap.size x1 x2 := by rw [hx2]; exact (Below.refl _ x1).alloc (Nat.le_refl _) _
  have g1 : x2.heap[w.heap.size]? = some (.cells #[.int .u32 (i : Nat), .int .u8 (t : Nat)] 80 (0, 0)) := (hb2.block _ (by omega)).trans (by rw [hx1]; exact heap_alloc_new w _)
  have g2 : x2.heap[w.heap.size + 1]? = some (.cells #[.int .u32 (j : Nat), .int .u8 (u : Nat)] 80 (0, 0)) := by rw [hx2, ← hs1]; exact heap_alloc_new x1 _
  have HB2 := hid (hb1.trans (hb2.mono (by omega)))
  have HDX := hid (show x2.drawn = w.drawn by rw [hx2, hx1]; rfl)
  rw [← hx1, ← hx2]
  have c0 : x2.drew.cell? ⟨w.heap.size, 0, none⟩ = some (.int .u32 (i : Nat)) := (cell_of_row x2 _ _ _ _ _ g1).trans rfl
  have c1 : x2.drew.cell? ⟨w.heap.size, 1, none⟩ = some (.int .u8 (t : Nat)) := (cell_of_row x2 _ _ _ _ _ g1).trans rfl
  have d0 : x2.drew.cell? ⟨w.heap.size + 1, 0, none⟩ = some (.int .u32 (j : Nat)) := (cell_of_row x2 _ _ _ _ _ g2).trans rfl
  have d1 : x2.drew.cell? ⟨w.heap.size + 1, 1, none⟩ = some (.int .u8 (u : Nat)) := (cell_of_row x2 _ _ _ _ _ g2).trans rfl
  have HN3 := hid (fun (cs : Array Value) => show (x2.alloc (.cells cs 3)).drew.heap[w.heap.size + 2]? = some (.cells cs 3 (0, 0)) by rw [← hs2]; exact heap_alloc_new x2 _)
  clear hx1 hx2 hb1 hb2 g1 g2 hs1
  go_region_held3 (fun w' => w'.cell? ⟨w.heap.size, 0, none⟩ = some (.int .u32 (i : Nat)) ∧ w'.cell? ⟨w.heap.size, 1, none⟩ = some (.int .u8 (t : Nat)) ∧ w'.cell? ⟨w.heap.size + 1, 0, none⟩ = some (.int .u32 (j : Nat)) ∧ w'.cell? ⟨w.heap.size + 1, 1, none⟩ = some (.int .u8 (u : Nat)))
    (first | (with_reducible refine ⟨?_, ?_, ?_, ?_⟩ <;> assumption) | (with_reducible refine ⟨(alloc_cellcd _ _ _ _ ?_).trans ?_, (alloc_cellcd _ _ _ _ ?_).trans ?_, (alloc_cellcd _ _ _ _ ?_).trans ?_, (alloc_cellcd _ _ _ _ ?_).trans ?_⟩ <;> first | assumption | omega) | fail)
    (first
      | (go_at_call 81; refine (cmpb_any _ _ _).mono ?_; rintro e w' ⟨rfl, rfl⟩)
      | (go_at_call 82; refine (cmpw_any _ _ _).mono ?_; rintro e w' ⟨rfl, rfl⟩)
      | (go_at_call 66; refine (or_grw _ _ 2 [cmp3 t u, cmp3 j i] rfl (by omega) (by intro k x hk; rw [cell_of_row _ _ _ _ _ _ (HN3.out _)]; match k, hk with | 0, hk => (cases hk; rfl) | 1, hk => (cases hk; rfl) | k + 2, hk => cases hk)).mono ?_; rintro e y ⟨rfl, hy, hyd⟩; have HYD := hid (show x2.drawn ≤ y.drawn from Nat.le_trans (Nat.le_succ _) hyd); clear hyd; rw [HO.out]; have HY := hid (((Below.refl _ x2).alloc (Nat.le_refl _) _).drew.trans (hy.mono (by show x2.heap.size ≤ (x2.alloc _).heap.size; rw [World.size_alloc]; omega))); have r0 := (HY.out.cell (p := ⟨w.heap.size, 0, none⟩) (by show w.heap.size < x2.heap.size; omega)).trans c0; have r1 := (HY.out.cell (p := ⟨w.heap.size, 1, none⟩) (by show w.heap.size < x2.heap.size; omega)).trans c1; have r3 := (HY.out.cell (p := ⟨w.heap.size + 1, 0, none⟩) (by show w.heap.size + 1 < x2.heap.size; omega)).trans d0; have r4 := (HY.out.cell (p := ⟨w.heap.size + 1, 1, none⟩) (by show w.heap.size + 1 < x2.heap.size; omega)).trans d1; clear hy)
      | fail)
  go_wp2
  go_ret
  exact ⟨rfl, HB2.out.trans (HY.out.mono (by omega)), by rw [← HDX.out]; exact HYD.out⟩

/-- What has grown is what it was, with more behind it. -/
theorem grow_of {w w' : World} (h : Below w.heap.size w w') (hd : w.drawn ≤ w'.drawn) : ∃ q os, w' = Go.Sort.grow (w.drewN q) os := by
  refine ⟨w'.drawn - w.drawn, w'.heap.extract w.heap.size w'.heap.size, ?_⟩
  have hs := h.size
  have hh : w'.heap = w.heap ++ w'.heap.extract w.heap.size w'.heap.size := by
    apply Array.ext_getElem?
    intro i
    by_cases hi : i < w.heap.size
    · rw [Array.getElem?_append_left hi]
      exact h.block i hi
    · rw [Array.getElem?_append_right (by omega), Array.getElem?_extract]
      by_cases h2 : i < w'.heap.size
      · rw [if_pos (by omega), show w.heap.size + (i - w.heap.size) = i by omega]
      · rw [if_neg (by omega), Array.getElem?_eq_none (by omega)]
  have h1 := h.os
  have h2 := h.tape
  have h3 := h.output
  cases w' with
  | mk heap' tape' drawn' os' output' =>
    cases w with
    | mk heap tape drawn os output =>
      simp only at *
      unfold Go.Sort.grow World.drewN
      simp only [World.mk.injEq]
      exact ⟨hh, h2, by omega, h1, h3⟩


theorem ccel_len (c : Cd) : (ccel c).length = 2 := rfl
theorem ccel_one (c : Cd) : ∀ v ∈ ccel c, v.oneCell' = true := by
  intro v hv
  unfold ccel at hv
  simp only [List.mem_cons, List.not_mem_nil, or_false] at hv
  rcases hv with rfl | rfl <;> rfl
theorem ccels_len (l : List Cd) : (ccels l).length = l.length * 2 := by
  induction l with
  | nil => rfl
  | cons c l ih =>
    show (ccel c ++ ccels l).length = _
    rw [List.length_append, ccel_len, ih, List.length_cons]; omega
theorem ccels_at {l : List Cd} {k i : Nat} {c : Cd} {v : Value} (hk : l[k]? = some c) (hv : (ccel c)[i]? = some v) : (ccels l)[k * 2 + i]? = some v := by
  induction l generalizing k with
  | nil => cases hk
  | cons d l ih =>
    have hi : i < 2 := (List.getElem?_eq_some_iff.1 hv).1
    show (ccel d ++ ccels l)[k * 2 + i]? = _
    cases k with
    | zero =>
      simp only [List.getElem?_cons_zero, Option.some.injEq] at hk
      subst hk
      rw [Nat.zero_mul, Nat.zero_add, List.getElem?_append_left (by rw [ccel_len]; exact hi)]
      exact hv
    | succ k =>
      rw [List.getElem?_cons_succ] at hk
      rw [List.getElem?_append_right (by rw [ccel_len]; omega), ccel_len, show (k + 1) * 2 + i - 2 = k * 2 + i by omega]
      exact ih hk

theorem cmp_laysC (blk off size : Nat) (w : World) : CmpLays Try.prog 80 #[] ccel 2 ordC blk off size w := fun m os dk hs x y =>
  (orderC_grw _ x y).mono fun e w' h => ⟨h.1, grow_of h.2.1 h.2.2⟩

theorem lt_ordC (a b : Cd) : ltOf ordC a b = decide (CBef a b) := by
  unfold ltOf
  exact decide_eq_decide.2 (ordC_bef a b)

theorem swo_ordC : SWO (ltOf ordC) where
  irrefl x := by rw [lt_ordC]; exact decide_eq_false (cbef_irr x)
  trans x y z h1 h2 := by rw [lt_ordC] at *; exact decide_eq_true (cbef_trans (of_decide_eq_true h1) (of_decide_eq_true h2))
  ntrans x y z h1 h2 := by rw [lt_ordC] at *; exact decide_eq_false (cbef_ntrans (of_decide_eq_false h1) (of_decide_eq_false h2))

theorem tot_ordC (x y : Cd) (h1 : ltOf ordC x y = false) (h2 : ltOf ordC y x = false) : x = y := by
  rw [lt_ordC] at h1 h2
  by_cases e : x = y
  · exact e
  · rcases cbef_total e with hb | hb
    · exact absurd hb (of_decide_eq_false h1)
    · exact absurd hb (of_decide_eq_false h2)

theorem sortC_eq (q : List Cd) : (q.mergeSort fun x y => !(ltOf ordC) y x) = sortC q := by
  unfold sortC
  congr 1
  funext x y
  rw [lt_ordC]

theorem flat_ccels (q : List Cd) : flatK ccel 2 q.toArray = (ccels q).toArray := by
  apply Array.ext_getElem?
  intro t
  by_cases ht : t < q.length * 2
  · have h1 : t / 2 < q.length := by omega
    have hg := get_flatK ccel 2 q.toArray t (by simpa using ht)
    have hsz : t < (flatK ccel 2 q.toArray).size := by rw [size_flatK]; simpa using ht
    rw [Array.getElem?_eq_getElem hsz]
    rw [getElem!_pos _ t hsz] at hg
    rw [hg]
    have hit : q.toArray[t / 2]! = q[t / 2] := by
      rw [getElem!_pos _ _ (by simpa using h1)]
      simp
    rw [hit]
    have hm : t % 2 < (ccel q[t / 2]).length := by rw [ccel_len]; omega
    have hc := ccels_at (i := t % 2) (List.getElem?_eq_getElem h1) (List.getElem?_eq_getElem (l := ccel q[t / 2]) hm)
    rw [show t / 2 * 2 + t % 2 = t by omega] at hc
    rw [List.getElem?_toArray, hc, getElem!_pos (ccel q[t / 2]) (t % 2) hm]
  · rw [Array.getElem?_eq_none (by rw [size_flatK]; simpa using ht), Array.getElem?_eq_none (by rw [List.size_toArray, ccels_len]; omega)]

theorem heap_sortedK {w : World} {g n : Nat} {os : Array Obj} {cur : Array Value} {e : TypeId} {fr : Nat × Nat} (d : Array Value) (hb : w.heap[g]? = some (.cells cur e fr)) :
    (grow (putRow id (Sort.ahead w n) g 0 d) os).heap[g]? = some (.cells (putCells id 0 d cur) e fr) := by
  have hg : g < w.heap.size := (Array.getElem?_eq_some_iff.1 hb).1
  rw [heap_grow_old _ _ (by simpa using hg)]
  simp [putRow, mapBlock, Sort.ahead, Array.getElem?_modify, hb, onCells]

theorem keeps_sortedK {w : World} {g n : Nat} {os : Array Obj} (d : Array Value) : Keeps (fun k => k = g) w (grow (putRow id (Sort.ahead w n) g 0 d) os) := by
  refine ⟨rfl, rfl, rfl, by simp, fun k hk hne => ?_⟩
  rw [heap_grow_old _ _ (by simpa using hk)]
  have : g ≠ k := fun e => hne e.symm
  simp [putRow, mapBlock, Sort.ahead, Array.getElem?_modify, this]

theorem take_putCellsK (cur : Array Value) (ts : List Value) (h : ts.length ≤ cur.size) : (putCells id 0 ts.toArray cur).toList.take ts.length = ts := by
  apply List.ext_getElem?
  intro j
  by_cases hj : j < ts.length
  · rw [List.getElem?_take_of_lt hj, Array.getElem?_toList]
    simp [putCells, hj, show j < cur.size by omega]
  · rw [List.getElem?_take_eq_none (by omega), List.getElem?_eq_none (by omega)]

theorem holds_ownK {w : World} {lo g n c : Nat} {e : TypeId} {xs : List Value} (h : w.ownsRow lo e 2 (.slice (some ⟨g, 0, none⟩) n c) n xs) : Holds id w g 0 xs.toArray := by
  intro j hj
  have hj' : j < xs.length := by simpa using hj
  refine ⟨?_, by rw [Nat.zero_add]; exact owns_frozen h j⟩
  rw [Nat.zero_add]
  have h1 := h.cellAt j (by have := h.1; omega)
  rw [h1]
  simp [hj']

set_option maxRecDepth 100000 in
theorem sortC_any (w : World) (lo : Nat) (v : Value) (q : List Cd) (h : w.ownsRow lo 80 2 v q.length (ccels q)) (hl : q.length ≤ 10000) :
    Calls Try.prog 79 #[v, .func (.func 80) #[] #[]] w fun e w' => e = .returned (.tuple #[]) ∧ w'.ownsRow lo 80 2 v q.length (ccels (sortC q)) ∧ Keeps (fun k => v.ownBlock = some k) w w' := by
  rcases owns_shape h with ⟨rfl, e0⟩ | ⟨g, cap, rfl, hg1, hg2, hc1, hc2⟩
  · have hq : q = [] := List.length_eq_zero_iff.1 e0
    subst hq
    have hs := AnyF.slices_SortFunc_none Try.sortIt none 0 (.func (.func 80) #[] #[]) w
    refine Calls.mono hs ?_
    rintro e w' ⟨rfl, rfl⟩
    exact ⟨rfl, by rw [show sortC [] = [] from List.length_eq_zero_iff.1 (sortC_len [])]; exact h, Keeps.refl _ _⟩
  · obtain ⟨cur, hcur, hsz, htk, h1, h2, h3⟩ := owns_setRow h
    have hH : HoldsK ccel 2 w g 0 q.toArray := by
      unfold HoldsK
      rw [flat_ccels]
      exact holds_ownK h
    have hs := AnyQ.slices_SortFunc_total Try.sortIt 2 Try.isAgg80 Try.sizeOf80 ccel ccel_len ccel_one ordC swo_ordC 80 #[] g 0 cap q.toArray w (enters_of Try.func80 (by kernel_rfl) rfl) (cmp_laysC _ _ _ _) hH hg2 (by simp; omega) tot_ordC
    refine Calls.mono hs ?_
    rintro e w' ⟨rfl, n, os, rfl⟩
    unfold sortWorldK putRowK
    rw [show (q.toArray.toList.mergeSort fun x y => !(ltOf ordC) y x) = sortC q from sortC_eq q, flat_ccels]
    have hcl := ccels_len (sortC q)
    rw [sortC_len] at hcl
    refine ⟨rfl, ⟨by rw [hcl], .inr ⟨g, cap, _, rfl, h3, heap_sortedK _ hcur, h1, h2, by simpa [putCells] using hsz, ?_⟩⟩, ?_⟩
    · rw [← hcl]
      exact take_putCellsK cur _ (by rw [hcl, hsz]; omega)
    · exact (keeps_sortedK (ccels (sortC q)).toArray).mono fun k hk e => by rw [e]; rfl


theorem below_of_keepsC {S : Nat → Prop} {w w' : World} {B : Nat} (h : Keeps S w w') (hB : B ≤ w.heap.size) (hS : ∀ k, S k → B ≤ k) : Below B w w' :=
  ⟨h.os, h.tape, h.output, h.size, fun i hi => h.block i (by omega) fun hs => by have := hS i hs; omega⟩

end Go.Proofs.Ytdongghjchnpbaa
