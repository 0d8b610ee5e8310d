/-
  slices.SortFunc over a row of its own; slices.SortedFunc over the items.
-/
import Derived.Test.YtcgfechodbmimaaPrH
namespace Go.Proofs.Ytcgfechodbmimaa
open Go.RowKit Go.Shelf Go.Sort
set_option linter.unusedVariables false
set_option linter.unusedSimpArgs false

theorem tot_ord (x y : It) (h1 : ltOf ordI x y = false) (h2 : ltOf ordI y x = false) : x = y := by
  rw [lt_ord] at h1 h2
  by_cases e : x = y
  · exact e
  · rcases bef_total e with hb | hb
    · exact absurd hb (of_decide_eq_false h1)
    · exact absurd hb (of_decide_eq_false h2)

theorem heap_sortedK {w : World} {g n : Nat} {os : Array Obj} {cur : Array Value} {e : TypeId} {fr : Nat × Nat} (d : Array Value) (hb : w.heap[g]? = some (.cells cur e fr)) :
    (grow (putRow id (Sort.ahead w n) g 0 d) os).heap[g]? = some (.cells (putCells id 0 d cur) e fr) := by
  have hg : g < w.heap.size := (Array.getElem?_eq_some_iff.1 hb).1
  rw [heap_grow_old _ _ (by simpa using hg)]
  simp [putRow, mapBlock, Sort.ahead, Array.getElem?_modify, hb, onCells]

theorem keeps_sortedK {w : World} {g n : Nat} {os : Array Obj} (d : Array Value) : Keeps (fun k => k = g) w (grow (putRow id (Sort.ahead w n) g 0 d) os) := by
  refine ⟨rfl, rfl, rfl, by simp, fun k hk hne => ?_⟩
  rw [heap_grow_old _ _ (by simpa using hk)]
  have : g ≠ k := fun e => hne e.symm
  simp [putRow, mapBlock, Sort.ahead, Array.getElem?_modify, this]

theorem take_putCellsK (cur : Array Value) (ts : List Value) (h : ts.length ≤ cur.size) : (putCells id 0 ts.toArray cur).toList.take ts.length = ts := by
  apply List.ext_getElem?
  intro j
  by_cases hj : j < ts.length
  · rw [List.getElem?_take_of_lt hj, Array.getElem?_toList]
    simp [putCells, hj, show j < cur.size by omega]
  · rw [List.getElem?_take_eq_none (by omega), List.getElem?_eq_none (by omega)]

theorem holds_ownK {w : World} {lo g n c : Nat} {e : TypeId} {xs : List Value} (h : w.ownsRow lo e 3 (.slice (some ⟨g, 0, none⟩) n c) n xs) : Holds id w g 0 xs.toArray := by
  intro j hj
  have hj' : j < xs.length := by simpa using hj
  refine ⟨?_, by rw [Nat.zero_add]; exact owns_frozen h j⟩
  rw [Nat.zero_add]
  have h1 := h.cellAt j (by have := h.1; omega)
  rw [h1]
  simp [hj']

theorem inOrder_len (q : List It) : (inOrder q).length = q.length := (inOrder_perm q).length_eq

set_option maxRecDepth 100000 in
theorem sort11_any (w : World) (lo : Nat) (v : Value) (q : List It) (h : w.ownsRow lo 32 3 v q.length (cels q)) (hl : q.length ≤ 10000) :
    Calls Try.prog 31 #[v, .func (.func 26) #[] #[]] w fun e w' => e = .returned (.tuple #[]) ∧ w'.ownsRow lo 32 3 v q.length (cels (inOrder q)) ∧ Keeps (fun k => v.ownBlock = some k) w w' := by
  rcases owns_shape h with ⟨rfl, e0⟩ | ⟨g, cap, rfl, hg1, hg2, hc1, hc2⟩
  · have hq : q = [] := List.length_eq_zero_iff.1 e0
    subst hq
    have hs := AnyF.slices_SortFunc_none Try.sortIt none 0 (.func (.func 26) #[] #[]) w
    refine Calls.mono hs ?_
    rintro e w' ⟨rfl, rfl⟩
    exact ⟨rfl, by rw [show inOrder [] = [] from List.length_eq_zero_iff.1 (inOrder_len [])]; exact h, Keeps.refl _ _⟩
  · obtain ⟨cur, hcur, hsz, htk, h1, h2, h3⟩ := owns_setRow h
    have hH : HoldsK cel 3 w g 0 q.toArray := by
      unfold HoldsK
      rw [flat_cels]
      exact holds_ownK h
    have hs := AnyQ.slices_SortFunc_total Try.sortIt 3 Try.isAgg32 Try.sizeOf32 cel cel_len cel_one ordI swo_ord 26 #[] g 0 cap q.toArray w (enters_of Try.func26 (by kernel_rfl) rfl) (cmp_lays _ _ _ _) hH hg2 (by simp; omega) tot_ord
    refine Calls.mono hs ?_
    rintro e w' ⟨rfl, n, os, rfl⟩
    unfold sortWorldK putRowK
    rw [show (q.toArray.toList.mergeSort fun x y => !(ltOf ordI) y x) = inOrder q from rfl, flat_cels]
    have hcl := cels_len (inOrder q)
    rw [inOrder_len] at hcl
    refine ⟨rfl, ⟨by rw [hcl], .inr ⟨g, cap, _, rfl, h3, heap_sortedK _ hcur, h1, h2, by simpa [putCells] using hsz, ?_⟩⟩, ?_⟩
    · rw [← hcl]
      exact take_putCellsK cur _ (by rw [hcl, hsz]; omega)
    · exact (keeps_sortedK (cels (inOrder q)).toArray).mono fun k hk e => by rw [e]; rfl

theorem below_of_keeps {S : Nat → Prop} {w w' : World} {B : Nat} (h : Keeps S w w') (hB : B ≤ w.heap.size) (hS : ∀ k, S k → B ≤ k) : Below B w w' :=
  ⟨h.os, h.tape, h.output, h.size, fun i hi => h.block i (by omega) fun hs => by have := hS i hs; omega⟩

theorem owns_blk_ge {w : World} {lo : Nat} {e : TypeId} {size : Nat} {v : Value} {n : Nat} {xs : List Value} (h : w.ownsRow lo e size v n xs) : ∀ k, v.ownBlock = some k → lo ≤ k := fun k hk => (World.ownsRow.lt h k hk).1

theorem sorted11_any (w0 w : World) (lb : Array Value) (n0 : Nat) (q : List It) (hl : q.length ≤ 10000) (hb0 : Below w0.heap.size w0 w) (h1 : n0 ≤ w.heap.size)
    (hseq : ∀ n, SeqStopsK Fence.wide n Try.prog 32 lb (fun x : It => #[itv x]) (Keeps (Ahead n0)) (fun ys => ys = q) (fun pre => pre <+: q) 10000 w0) :
    Calls Try.prog 24 #[.func (.func 32) #[] lb, .func (.func 26) #[] #[]] w fun e w' => ∃ v, e = .returned v ∧ w'.ownsRow w.heap.size 32 3 v q.length (cels (inOrder q)) ∧ Below w.heap.size w w' := by
  have HC := hid (collect11_any w0 w lb n0 q hl hb0 h1 hseq)
  clear hseq hb0
  go_enter Try.func24, Try.ntmps24
  go_wp2_with (first
    | (go_at_call 30; (with_reducible refine HC.out.mono ?_); rintro e w1 ⟨v, rfl, hr, hb⟩; have HS := hid (sort11_any w1 w.heap.size v q hr hl); have HB := hid hb; have HG := hid (owns_blk_ge hr); clear hr hb)
    | (go_at_call 31; (with_reducible refine HS.out.mono ?_); rintro e w2 ⟨rfl, hr2, hk2⟩; have HR2 := hid hr2; have HB2 := hid (HB.out.trans (below_of_keeps hk2 HB.out.size HG.out)); clear hr2 hk2)
    | fail)
  go_ret
  exact ⟨v, rfl, HR2.out, HB2.out⟩

theorem values11_any (w : World) (a : Option Addr) (n c : Nat) :
    Calls Try.prog 25 #[.slice a n c] w fun e w' => e = .returned (.func (.func 32) #[] #[.pointer (some ⟨w.heap.size, 0, none⟩)]) ∧ w' = w.alloc (.cells #[.slice a n c] 45) := by
  go_enter Try.func25, Try.ntmps25
  go_wp2_with fail
  go_ret
  exact ⟨rfl, rfl⟩

set_option maxRecDepth 100000 in
set_option maxHeartbeats 4000000 in
theorem list11_any (w : World) (lo b m : Nat) (v : Value) (q : List It) (h : RwAt w lo b v m q) :
    Calls Try.prog 16 #[.pointer (some ⟨b, 0, none⟩)] w fun e w' => ∃ v', e = .returned v' ∧ w'.ownsRow w.heap.size 32 3 v' q.length (cels (inOrder q)) ∧ Below w.heap.size w w' := by
  obtain ⟨a, c, rfl, hc1, hc2⟩ := h.sl
  have c0 : w.cell? ⟨b, 0, none⟩ = some (.slice a q.length c) := (cell_of_row w _ _ _ _ _ h.blk).trans rfl
  have HV := hid (values11_any w a q.length c)
  obtain ⟨x, hx⟩ : ∃ x, x = w.alloc (.cells #[.slice a q.length c] 45) := ⟨_, rfl⟩
  have hbx : Below w.heap.size w x := by rw [hx]; exact (Below.refl _ w).alloc (Nat.le_refl _) _
  have hB : Boxed x w.heap.size 45 (.slice a q.length c) := by rw [hx]; exact Boxed.new w _ _
  have hseq := fun n => values_seq n w.heap.size x.heap.size lo c a q x (h.below hbx).own rfl h.len hB
  have HS := hid (sorted11_any x x _ x.heap.size q h.len (Below.refl _ _) (Nat.le_refl _) hseq)
  have HB := hid (fun (w' : World) (hb : Below x.heap.size x w') => show Below w.heap.size w w' from hbx.trans (hb.mono hbx.size))
  have HLO := hid (fun (w' : World) (v' : Value) (ho : w'.ownsRow x.heap.size 32 3 v' q.length (cels (inOrder q))) => show w'.ownsRow w.heap.size 32 3 v' q.length (cels (inOrder q)) from owns_base ho hbx.size)
  rw [← hx] at HV
  clear h hx hbx hB hseq
  go_enter Try.func16, Try.ntmps16
  go_wp2_with (first
    | (go_at_call 25; (with_reducible refine HV.out.mono ?_); rintro e w1 ⟨rfl, rfl⟩)
    | (go_at_call 24; (with_reducible refine HS.out.mono ?_); rintro e w2 ⟨v2, rfl, hr2, hb2⟩; have HR2 := hid (HLO.out _ _ hr2); have HB2 := hid (HB.out _ hb2); clear hr2 hb2)
    | fail)
  go_ret
  exact ⟨v2, rfl, HR2.out, HB2.out⟩

theorem list11_nil (w : World) :
    Calls Try.prog 16 #[.pointer none] w fun e w' => e = .returned (.slice none 0 0) ∧ w = w' := by
  go_enter Try.func16, Try.ntmps16
  go_wp2_with fail
  go_ret
  exact ⟨rfl, rfl⟩

end Go.Proofs.Ytcgfechodbmimaa
