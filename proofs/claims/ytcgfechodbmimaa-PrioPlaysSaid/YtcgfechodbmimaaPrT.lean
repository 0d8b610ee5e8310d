/-
  One more item behind all.
-/
import Derived.Test.YtcgfechodbmimaaPrS
namespace Go.Proofs.Ytcgfechodbmimaa
open Go.RowKit Go.ChangeMaps
set_option linter.unusedVariables false
set_option linter.unusedSimpArgs false

theorem heap_setCell_arr' (w : World) (g j : Nat) (cs : Array Value) (t : TypeId) (fr : Nat × Nat) (v : Value) (hg : w.heap[g]? = some (.cells cs t fr)) : (w.setCell ⟨g, j, none⟩ v).heap[g]? = some (.cells (cs.setIfInBounds j v) t fr) := by
  obtain ⟨hlt, hk⟩ := Array.getElem?_eq_some_iff.1 hg
  show (w.heap.modify g _)[g]? = _
  rw [Array.getElem?_eq_getElem (by rw [Array.size_modify]; exact hlt), Array.getElem_modify_self, hk]
  simp
theorem infoIt : (Try.prog.info? 32).map (fun i => (i.zero, i.size, i.bytes)) = some (some (.agg #[.int .u32 0, .int .u8 0, .int .u32 0]), 3, 12) := by kernel_rfl
theorem apart_snoc {q : List It} {x : It} (h : IdsApart q) (hx : plc q x.1 = none) : IdsApart (q ++ [x]) := by
  unfold IdsApart
  rw [List.map_append, List.nodup_append]
  refine ⟨h, by simp, fun a ha b hb => ?_⟩
  simp at hb
  subst hb
  rintro rfl
  obtain ⟨y, hy, e⟩ := List.mem_map.1 ha
  exact plc_none.1 hx y hy e
theorem plc_snoc {q : List It} {x : It} (h : IdsApart q) (hx : plc q x.1 = none) (z : Int) : plc (q ++ [x]) z = upd (plc q) x.1 (some q.length) z := by
  have hA := apart_snoc h hx
  unfold upd
  by_cases e : z = x.1
  · rw [if_pos e]
    exact (plc_some hA).2 ⟨by simp, by rw [it_end, e]⟩
  · rw [if_neg e]
    cases hp : plc q z with
    | none =>
      rw [plc_none] at hp ⊢
      intro y hy
      rcases List.mem_append.1 hy with hy | hy
      · exact hp y hy
      · simp at hy; rw [hy]; exact fun e2 => e e2.symm
    | some k =>
      obtain ⟨hk, ez⟩ := (plc_some h).1 hp
      exact (plc_some hA).2 ⟨by rw [List.length_append]; omega, by rw [it_left hk]; exact ez⟩

theorem RwAt.ne_m {w : World} {lo b : Nat} {v : Value} {m : Nat} {q : List It} (h : RwAt w lo b v m q) : ∀ k, v.ownBlock = some k → k ≠ m := by
  intro k hk e2
  subst e2
  obtain ⟨es, clock, hm⟩ := h.mp.map
  rcases h.own.2 with ⟨rfl, _⟩ | ⟨g', cap, cur, rfl, hb, hgg, _⟩
  · cases hk
  · have : k = g' := by
      have := hk; simp [Value.ownBlock] at this; exact this.symm
    subst this
    rw [hm] at hgg
    simp at hgg
theorem RwAt.ne_b {w : World} {lo b : Nat} {v : Value} {m : Nat} {q : List It} (h : RwAt w lo b v m q) : ∀ k, v.ownBlock = some k → k ≠ b := owns_ne h.own h.blk (by decide)
theorem assert_it (v : Value) (w : World) : (Instr.typeAssert (.iface 32 v) 20 32 false).run Try.prog w = .ok v w := by kernel_rfl

set_option maxRecDepth 100000 in
set_option maxHeartbeats 8000000 in
theorem qpush_any (w : World) (lo b m : Nat) (v : Value) (q : List It) (x : It) (h : RwAt w lo b v m q) (hx : kw x.1) (hn : plc q x.1 = none) (hl : q.length < 10000) (hlo : lo ≤ w.heap.size) :
    Calls Try.prog 75 #[.pointer (some ⟨b, 0, none⟩), .iface 32 (itv x)] w fun e w' => e = .returned (.tuple #[]) ∧ ∃ v', RwAt w' lo b v' m (q ++ [x]) ∧ Keeps (Hb b m v) w w' ∧ ∀ k, v'.ownBlock = some k → v.ownBlock = some k ∨ w.heap.size ≤ k := by
  obtain ⟨a, c, rfl, hc1, hc2⟩ := h.sl
  have hlb := h.lt
  have hlm := h.mp.lt
  have hmb : m ≠ b := by
    rintro rfl
    obtain ⟨es, clock, hm⟩ := h.mp.map
    rw [h.blk] at hm; simp at hm
  have H := hid h
  have HPS := hid (fun z => plc_snoc h.ids hn z)
  have HAP := hid (apart_snoc h.ids hn)
  have HN := hid hn
  have HKX := hid hx
  obtain ⟨x0, x1, x2⟩ := x
  unfold itv
  dsimp only at *
  have hta := assert_it (.agg #[.int .u32 x0, .int .u8 x1, .int .u32 x2]) w
  clear h hn
  go_enter Try.func75, Try.ntmps75
  go_wp2_with fail
  obtain ⟨w1, hw1⟩ : ∃ w1, w1 = w.alloc (.cells #[.int .u32 x0, .int .u8 x1, .int .u32 x2] 32) := ⟨_, rfl⟩
  have hb1 : Below w.heap.size w w1 := by rw [hw1]; exact (Below.refl _ w).alloc (Nat.le_refl _) _
  have hs1 : w1.heap.size = w.heap.size + 1 := by rw [hw1]; simp
  have hbox : w1.heap[w.heap.size]? = some (.cells #[.int .u32 x0, .int .u8 x1, .int .u32 x2] 32 (0, 0)) := by rw [hw1]; exact heap_alloc_new w _
  rw [← hw1]
  have hR1 := H.out.below hb1
  obtain ⟨w2, hrun1, hmp2, ht2⟩ := (hR1.mp.block (w' := w1.drew) rfl).put (by omega) HKX.out (k := q.length) (by omega)
  rw [if_neg (by rw [HN.out]; simp)] at hmp2
  have hq2 := turned_heap ht2
  obtain ⟨wd1, hwd1⟩ : ∃ y, y = w1.drew := ⟨_, rfl⟩
  obtain ⟨wd2, hwd2⟩ : ∃ y, y = w2.drew := ⟨_, rfl⟩
  have hwm : w.heap.size ≠ m := by omega
  have hs2 : wd2.heap.size = w.heap.size + 1 := by rw [hwd2]; exact hq2.1.trans hs1
  have hbd2 : wd2.heap[b]? = some (.cells #[.slice a q.length c, .map (some m)] 53 (0, 0)) := by rw [hwd2]; exact (hq2.2 b (Ne.symm hmb)).trans hR1.blk
  have hxd2 : wd2.heap[w.heap.size]? = some (.cells #[.int .u32 x0, .int .u8 x1, .int .u32 x2] 32 (0, 0)) := by rw [hwd2]; exact (hq2.2 _ hwm).trans hbox
  have hown2 : wd2.ownsRow lo 32 3 (.slice a q.length c) q.length (cels q) := by rw [hwd2]; exact owns_by hR1.own fun k hk => hq2.2 k (hR1.ne_m k hk)
  have HS1 := hid (show (fun w' : World => w'.cell? ⟨b, 0, none⟩ = some (.slice a q.length c) ∧ w'.cell? ⟨b, 1, none⟩ = some (.map (some m)) ∧ w'.cell? ⟨w.heap.size, 0, none⟩ = some (.int .u32 x0)) wd1 from by
    rw [hwd1]
    exact ⟨(cell_of_row _ _ _ _ _ _ hR1.blk).trans rfl, (cell_of_row _ _ _ _ _ _ hR1.blk).trans rfl, (cell_of_row w1 _ _ _ _ _ hbox).trans rfl⟩)
  have HCC := hid (fun (W : World) (h1 : W.heap[b]? = wd2.heap[b]?) (h2 : W.heap[w.heap.size]? = wd2.heap[w.heap.size]?) => show (fun w' : World => w'.cell? ⟨b, 0, none⟩ = some (.slice a q.length c) ∧ w'.cell? ⟨w.heap.size, 0, none⟩ = some (.int .u32 x0) ∧ w'.cell? ⟨w.heap.size, 1, none⟩ = some (.int .u8 x1) ∧ w'.cell? ⟨w.heap.size, 2, none⟩ = some (.int .u32 x2)) W from
    ⟨(cell_of_row _ _ _ _ _ _ (h1.trans hbd2)).trans rfl, (cell_of_row _ _ _ _ _ _ (h2.trans hxd2)).trans rfl, (cell_of_row _ _ _ _ _ _ (h2.trans hxd2)).trans rfl, (cell_of_row _ _ _ _ _ _ (h2.trans hxd2)).trans rfl⟩)
  have HS2 := hid (HCC.out wd2 rfl rfl)
  have HOWN := hid hown2
  have HLO := hid (show lo ≤ wd2.heap.size by omega)
  have HKP := hid (fun (w4 : World) (h : Below wd2.heap.size wd2 w4) => HCC.out w4 (h.block b (by omega)) (h.block _ (by omega)))
  have hnx : ∀ k, (Value.slice a q.length c).ownBlock = some k → k ≠ w.heap.size := fun k hk => by have := (World.ownsRow.lt H.out.own k hk).2; omega
  have HGB := hid (fun (w4 w5 : World) (hg : w4.grownBy w5 (Value.slice a q.length c).ownBlock) (h : Below wd2.heap.size wd2 w4) (p : Nat) (hp : p < wd2.heap.size) (hne : ∀ k, (Value.slice a q.length c).ownBlock = some k → k ≠ p) => show w5.heap[p]? = wd2.heap[p]? from
    ((Keeps.of_grown hg).block p (by have := h.size; omega) (fun e => hne p e rfl)).trans (h.block p hp))
  have HKG := hid (fun (w5 : World) {w4 : World} (hg : w4.grownBy w5 (Value.slice a q.length c).ownBlock) (h : Below wd2.heap.size wd2 w4) => HCC.out w5 (HGB.out w4 w5 hg h b (by omega) H.out.ne_b) (HGB.out w4 w5 hg h _ (by omega) hnx))
  have HFZ := hid (fun (w5 : World) {w4 : World} (hg : w4.grownBy w5 (Value.slice a q.length c).ownBlock) (h : Below wd2.heap.size wd2 w4) => show w5.frozen? ⟨b, 0, none⟩ = false from frozen_of_row _ _ _ _ _ ((HGB.out w4 w5 hg h b (by omega) H.out.ne_b).trans hbd2))
  have HBD2 := hid hbd2
  have HMP2 := hid (show MpF wd2 m (q.length + 1) (upd (plc q) x0 (some q.length)) by rw [hwd2]; exact hmp2.block rfl)
  have HKD := hid (show Keeps (Hb b m (.slice a q.length c)) w wd2 by
    have h1 : Keeps (Hb b m (.slice a q.length c)) w w1.drew := ⟨hb1.os, hb1.tape, hb1.output, hb1.size, fun k hk _ => hb1.block k hk⟩
    have h2 := turned_keeps h1 ht2 (.inr (.inl rfl))
    rw [hwd2]
    exact ⟨h2.os, h2.tape, h2.output, h2.size, h2.block⟩)
  rw [← hwd1] at hrun1
  have HR1 := hid hrun1
  have HSZ := hid hs2
  clear hw1 hb1 hbox hR1 hrun1 hmp2 ht2 hq2 hbd2 hxd2 hown2 hs2 hta
  have HUN1 := hid (show ∀ (W : World) (L : Array Bool), (fun w' : World => w'.cell? ⟨b, 0, none⟩ = some (.slice a q.length c) ∧ w'.cell? ⟨b, 1, none⟩ = some (.map (some m)) ∧ w'.cell? ⟨w.heap.size, 0, none⟩ = some (.int .u32 x0)) W → UntilAll [(11, (fun w' => w'.cell? ⟨b, 0, none⟩ = some (.slice a q.length c) ∧ w'.cell? ⟨b, 1, none⟩ = some (.map (some m)) ∧ w'.cell? ⟨w.heap.size, 0, none⟩ = some (.int .u32 x0)))] L W from by
    intro W L hW c hc _
    simp only [List.mem_cons, List.not_mem_nil, or_false] at hc
    subst hc
    exact hW)
  refine Orders.begins (C := [(11, (fun w' => w'.cell? ⟨b, 0, none⟩ = some (.slice a q.length c) ∧ w'.cell? ⟨b, 1, none⟩ = some (.map (some m)) ∧ w'.cell? ⟨w.heap.size, 0, none⟩ = some (.int .u32 x0)))]) (by kernel_rfl) ?_
  rw [← hwd1]
  clear hwd1
  refine Orders.take (fun _ => True) [] (i := 0) (v := ?_) rfl (by kernel_rfl) (by kernel_rfl) (by kernel_rfl) (fun _ _ _ h => h) (by kernel_rfl) (fun _ _ _ _ => trivial) (by kernel_rfl) (by kernel_rfl) (Or.inl ⟨by rfl, ?_⟩) (HUN1.out _ _ HS1.out) (fun HU => ?_)
  rotate_left
  · intro u hSw
    try dsimp only at hSw
    go_simp
    try (with_reducible rfl)
  clear HU
  try simp only [Act.put, List.getElem_toArray, List.getElem_cons_succ, List.getElem_cons_zero, List.setIfInBounds_toArray, List.set_cons_zero, List.set_cons_succ]
  refine Orders.take (fun _ => True) [] (i := 1) (v := ?_) rfl (by kernel_rfl) (by kernel_rfl) (by kernel_rfl) (fun _ _ _ h => h) (by kernel_rfl) (fun _ _ _ _ => trivial) (by kernel_rfl) (by kernel_rfl) (Or.inl ⟨by rfl, ?_⟩) (HUN1.out _ _ HS1.out) (fun HU => ?_)
  rotate_left
  · intro u hSw
    try dsimp only at hSw
    go_simp
    try (with_reducible rfl)
  clear HU
  try simp only [Act.put, List.getElem_toArray, List.getElem_cons_succ, List.getElem_cons_zero, List.setIfInBounds_toArray, List.set_cons_zero, List.set_cons_succ]
  refine Orders.take (fun _ => True) [] (i := 2) (v := ?_) rfl (by kernel_rfl) (by kernel_rfl) (by kernel_rfl) (fun _ _ _ h => h) (by kernel_rfl) (fun _ _ _ _ => trivial) (by kernel_rfl) (by kernel_rfl) (Or.inl ⟨by rfl, ?_⟩) (HUN1.out _ _ HS1.out) (fun HU => ?_)
  rotate_left
  · intro u hSw
    try dsimp only at hSw
    go_simp
    try (with_reducible rfl)
  clear HU
  try simp only [Act.put, List.getElem_toArray, List.getElem_cons_succ, List.getElem_cons_zero, List.setIfInBounds_toArray, List.set_cons_zero, List.set_cons_succ]
  refine Orders.take (fun w' => w'.cell? ⟨b, 0, none⟩ = some (.slice a q.length c) ∧ w'.cell? ⟨b, 1, none⟩ = some (.map (some m)) ∧ w'.cell? ⟨w.heap.size, 0, none⟩ = some (.int .u32 x0)) [11] (i := 3) (v := ?_) rfl (by kernel_rfl) (by kernel_rfl) (by kernel_rfl) (fun _ _ _ h => h) (by kernel_rfl) (fun L u hd h => h (11, (fun w' => w'.cell? ⟨b, 0, none⟩ = some (.slice a q.length c) ∧ w'.cell? ⟨b, 1, none⟩ = some (.map (some m)) ∧ w'.cell? ⟨w.heap.size, 0, none⟩ = some (.int .u32 x0))) (by simp) (hd 11 (by simp))) (by kernel_rfl) (by kernel_rfl) (Or.inl ⟨by rfl, ?_⟩) (HUN1.out _ _ HS1.out) (fun HU => ?_)
  rotate_left
  · intro u hSw
    try dsimp only at hSw
    obtain ⟨s0, s1, s2⟩ := hSw
    go_simp
    try (with_reducible rfl)
  clear HU
  try simp only [Act.put, List.getElem_toArray, List.getElem_cons_succ, List.getElem_cons_zero, List.setIfInBounds_toArray, List.set_cons_zero, List.set_cons_succ]
  refine Orders.take (fun _ => True) [] (i := 4) (v := ?_) rfl (by kernel_rfl) (by kernel_rfl) (by kernel_rfl) (fun _ _ _ h => h) (by kernel_rfl) (fun _ _ _ _ => trivial) (by kernel_rfl) (by kernel_rfl) (Or.inl ⟨by rfl, ?_⟩) (HUN1.out _ _ HS1.out) (fun HU => ?_)
  rotate_left
  · intro u hSw
    try dsimp only at hSw
    go_simp
    try (with_reducible rfl)
  clear HU
  try simp only [Act.put, List.getElem_toArray, List.getElem_cons_succ, List.getElem_cons_zero, List.setIfInBounds_toArray, List.set_cons_zero, List.set_cons_succ]
  refine Orders.take (fun w' => w'.cell? ⟨b, 0, none⟩ = some (.slice a q.length c) ∧ w'.cell? ⟨b, 1, none⟩ = some (.map (some m)) ∧ w'.cell? ⟨w.heap.size, 0, none⟩ = some (.int .u32 x0)) [11] (i := 5) (v := ?_) rfl (by kernel_rfl) (by kernel_rfl) (by kernel_rfl) (fun _ _ _ h => h) (by kernel_rfl) (fun L u hd h => h (11, (fun w' => w'.cell? ⟨b, 0, none⟩ = some (.slice a q.length c) ∧ w'.cell? ⟨b, 1, none⟩ = some (.map (some m)) ∧ w'.cell? ⟨w.heap.size, 0, none⟩ = some (.int .u32 x0))) (by simp) (hd 11 (by simp))) (by kernel_rfl) (by kernel_rfl) (Or.inl ⟨by rfl, ?_⟩) (HUN1.out _ _ HS1.out) (fun HU => ?_)
  rotate_left
  · intro u hSw
    try dsimp only at hSw
    obtain ⟨s0, s1, s2⟩ := hSw
    go_simp
    try (with_reducible rfl)
  clear HU
  try simp only [Act.put, List.getElem_toArray, List.getElem_cons_succ, List.getElem_cons_zero, List.setIfInBounds_toArray, List.set_cons_zero, List.set_cons_succ]
  refine Orders.take (fun _ => True) [] (i := 6) (v := ?_) rfl (by kernel_rfl) (by kernel_rfl) (by kernel_rfl) (fun _ _ _ h => h) (by kernel_rfl) (fun _ _ _ _ => trivial) (by kernel_rfl) (by kernel_rfl) (Or.inl ⟨by rfl, ?_⟩) (HUN1.out _ _ HS1.out) (fun HU => ?_)
  rotate_left
  · intro u hSw
    try dsimp only at hSw
    go_simp
    try (with_reducible rfl)
  clear HU
  try simp only [Act.put, List.getElem_toArray, List.getElem_cons_succ, List.getElem_cons_zero, List.setIfInBounds_toArray, List.set_cons_zero, List.set_cons_succ]
  refine Orders.take (fun _ => True) [] (i := 7) (v := ?_) rfl (by kernel_rfl) (by kernel_rfl) (by kernel_rfl) (fun _ _ _ h => h) (by kernel_rfl) (fun _ _ _ _ => trivial) (by kernel_rfl) (by kernel_rfl) (Or.inl ⟨by rfl, ?_⟩) (HUN1.out _ _ HS1.out) (fun HU => ?_)
  rotate_left
  · intro u hSw
    try dsimp only at hSw
    go_simp
    try (with_reducible rfl)
  clear HU
  try simp only [Act.put, List.getElem_toArray, List.getElem_cons_succ, List.getElem_cons_zero, List.setIfInBounds_toArray, List.set_cons_zero, List.set_cons_succ]
  refine Orders.take (fun _ => True) [] (i := 8) (v := ?_) rfl (by kernel_rfl) (by kernel_rfl) (by kernel_rfl) (fun _ _ _ h => h) (by kernel_rfl) (fun _ _ _ _ => trivial) (by kernel_rfl) (by kernel_rfl) (Or.inl ⟨by rfl, ?_⟩) (HUN1.out _ _ HS1.out) (fun HU => ?_)
  rotate_left
  · intro u hSw
    try dsimp only at hSw
    go_simp
    try (with_reducible rfl)
  clear HU
  try simp only [Act.put, List.getElem_toArray, List.getElem_cons_succ, List.getElem_cons_zero, List.setIfInBounds_toArray, List.set_cons_zero, List.set_cons_succ]
  refine Orders.take (fun w' => w'.cell? ⟨b, 0, none⟩ = some (.slice a q.length c) ∧ w'.cell? ⟨b, 1, none⟩ = some (.map (some m)) ∧ w'.cell? ⟨w.heap.size, 0, none⟩ = some (.int .u32 x0)) [11] (i := 9) (v := ?_) rfl (by kernel_rfl) (by kernel_rfl) (by kernel_rfl) (fun _ _ _ h => h) (by kernel_rfl) (fun L u hd h => h (11, (fun w' => w'.cell? ⟨b, 0, none⟩ = some (.slice a q.length c) ∧ w'.cell? ⟨b, 1, none⟩ = some (.map (some m)) ∧ w'.cell? ⟨w.heap.size, 0, none⟩ = some (.int .u32 x0))) (by simp) (hd 11 (by simp))) (by kernel_rfl) (by kernel_rfl) (Or.inl ⟨by rfl, ?_⟩) (HUN1.out _ _ HS1.out) (fun HU => ?_)
  rotate_left
  · intro u hSw
    try dsimp only at hSw
    obtain ⟨s0, s1, s2⟩ := hSw
    go_simp
    try (with_reducible rfl)
  clear HU
  try simp only [Act.put, List.getElem_toArray, List.getElem_cons_succ, List.getElem_cons_zero, List.setIfInBounds_toArray, List.set_cons_zero, List.set_cons_succ]
  refine Orders.take (fun _ => True) [] (i := 10) (v := ?_) rfl (by kernel_rfl) (by kernel_rfl) (by kernel_rfl) (fun _ _ _ h => h) (by kernel_rfl) (fun _ _ _ _ => trivial) (by kernel_rfl) (by kernel_rfl) (Or.inl ⟨by rfl, ?_⟩) (HUN1.out _ _ HS1.out) (fun HU => ?_)
  rotate_left
  · intro u hSw
    try dsimp only at hSw
    go_simp
    try (with_reducible rfl)
  clear HU
  try simp only [Act.put, List.getElem_toArray, List.getElem_cons_succ, List.getElem_cons_zero, List.setIfInBounds_toArray, List.set_cons_zero, List.set_cons_succ]
  refine Orders.one (i := 11) (by kernel_rfl) rfl (fun K hK => ?_)
  have hrun := HR1.out
  go_simp
  refine hK.out _ _ ?_ (fun HU => ?_)
  · intro c hc hl
    simp only [List.mem_cons, List.not_mem_nil, or_false] at hc
    subst hc
    exact absurd hl (fun h => Bool.noConfusion (h.symm.trans (by kernel_rfl : _ = true)))
  clear hK K HU hrun
  try simp only [Act.put, List.getElem_toArray, List.getElem_cons_succ, List.getElem_cons_zero, List.setIfInBounds_toArray, List.set_cons_zero, List.set_cons_succ]
  refine Orders.ends (by kernel_rfl) ?_ _
  go_wp2_with fail
  have HUN2 := hid (show ∀ (W : World) (L : Array Bool), (fun w' : World => w'.cell? ⟨b, 0, none⟩ = some (.slice a q.length c) ∧ w'.cell? ⟨w.heap.size, 0, none⟩ = some (.int .u32 x0) ∧ w'.cell? ⟨w.heap.size, 1, none⟩ = some (.int .u8 x1) ∧ w'.cell? ⟨w.heap.size, 2, none⟩ = some (.int .u32 x2)) W → UntilAll [(10, (fun w' => w'.cell? ⟨b, 0, none⟩ = some (.slice a q.length c) ∧ w'.cell? ⟨w.heap.size, 0, none⟩ = some (.int .u32 x0) ∧ w'.cell? ⟨w.heap.size, 1, none⟩ = some (.int .u8 x1) ∧ w'.cell? ⟨w.heap.size, 2, none⟩ = some (.int .u32 x2)))] L W from by
    intro W L hW c hc _
    simp only [List.mem_cons, List.not_mem_nil, or_false] at hc
    subst hc
    exact hW)
  refine Orders.begins (C := [(10, (fun w' => w'.cell? ⟨b, 0, none⟩ = some (.slice a q.length c) ∧ w'.cell? ⟨w.heap.size, 0, none⟩ = some (.int .u32 x0) ∧ w'.cell? ⟨w.heap.size, 1, none⟩ = some (.int .u8 x1) ∧ w'.cell? ⟨w.heap.size, 2, none⟩ = some (.int .u32 x2)))]) (by kernel_rfl) ?_
  rw [← hwd2]
  clear hwd2
  refine Orders.take (fun _ => True) [] (i := 0) (v := ?_) rfl (by kernel_rfl) (by kernel_rfl) (by kernel_rfl) (fun _ _ _ h => h) (by kernel_rfl) (fun _ _ _ _ => trivial) (by kernel_rfl) (by kernel_rfl) (Or.inl ⟨by rfl, ?_⟩) (HUN2.out _ _ HS2.out) (fun HU => ?_)
  rotate_left
  · intro u hSw
    try dsimp only at hSw
    go_simp
    try (with_reducible rfl)
  clear HU
  try simp only [Act.put, List.getElem_toArray, List.getElem_cons_succ, List.getElem_cons_zero, List.setIfInBounds_toArray, List.set_cons_zero, List.set_cons_succ]
  refine Orders.take (fun _ => True) [] (i := 1) (v := ?_) rfl (by kernel_rfl) (by kernel_rfl) (by kernel_rfl) (fun _ _ _ h => h) (by kernel_rfl) (fun _ _ _ _ => trivial) (by kernel_rfl) (by kernel_rfl) (Or.inl ⟨by rfl, ?_⟩) (HUN2.out _ _ HS2.out) (fun HU => ?_)
  rotate_left
  · intro u hSw
    try dsimp only at hSw
    go_simp
    try (with_reducible rfl)
  clear HU
  try simp only [Act.put, List.getElem_toArray, List.getElem_cons_succ, List.getElem_cons_zero, List.setIfInBounds_toArray, List.set_cons_zero, List.set_cons_succ]
  refine Orders.take (fun _ => True) [] (i := 2) (v := ?_) rfl (by kernel_rfl) (by kernel_rfl) (by kernel_rfl) (fun _ _ _ h => h) (by kernel_rfl) (fun _ _ _ _ => trivial) (by kernel_rfl) (by kernel_rfl) (Or.inl ⟨by rfl, ?_⟩) (HUN2.out _ _ HS2.out) (fun HU => ?_)
  rotate_left
  · intro u hSw
    try dsimp only at hSw
    go_simp
    try (with_reducible rfl)
  clear HU
  try simp only [Act.put, List.getElem_toArray, List.getElem_cons_succ, List.getElem_cons_zero, List.setIfInBounds_toArray, List.set_cons_zero, List.set_cons_succ]
  refine Orders.take (fun _ => True) [] (i := 3) (v := ?_) rfl (by kernel_rfl) (by kernel_rfl) (by kernel_rfl) (fun _ _ _ h => h) (by kernel_rfl) (fun _ _ _ _ => trivial) (by kernel_rfl) (by kernel_rfl) (Or.inl ⟨by rfl, ?_⟩) (HUN2.out _ _ HS2.out) (fun HU => ?_)
  rotate_left
  · intro u hSw
    try dsimp only at hSw
    go_simp
    try (with_reducible rfl)
  clear HU
  try simp only [Act.put, List.getElem_toArray, List.getElem_cons_succ, List.getElem_cons_zero, List.setIfInBounds_toArray, List.set_cons_zero, List.set_cons_succ]
  refine Orders.take (fun w' => w'.cell? ⟨b, 0, none⟩ = some (.slice a q.length c) ∧ w'.cell? ⟨w.heap.size, 0, none⟩ = some (.int .u32 x0) ∧ w'.cell? ⟨w.heap.size, 1, none⟩ = some (.int .u8 x1) ∧ w'.cell? ⟨w.heap.size, 2, none⟩ = some (.int .u32 x2)) [10] (i := 4) (v := ?_) rfl (by kernel_rfl) (by kernel_rfl) (by kernel_rfl) (fun _ _ _ h => h) (by kernel_rfl) (fun L u hd h => h (10, (fun w' => w'.cell? ⟨b, 0, none⟩ = some (.slice a q.length c) ∧ w'.cell? ⟨w.heap.size, 0, none⟩ = some (.int .u32 x0) ∧ w'.cell? ⟨w.heap.size, 1, none⟩ = some (.int .u8 x1) ∧ w'.cell? ⟨w.heap.size, 2, none⟩ = some (.int .u32 x2))) (by simp) (hd 10 (by simp))) (by kernel_rfl) (by kernel_rfl) (Or.inl ⟨by rfl, ?_⟩) (HUN2.out _ _ HS2.out) (fun HU => ?_)
  rotate_left
  · intro u hSw
    try dsimp only at hSw
    obtain ⟨s0, s1, s2, s3⟩ := hSw
    go_simp
    try (with_reducible rfl)
  clear HU
  try simp only [Act.put, List.getElem_toArray, List.getElem_cons_succ, List.getElem_cons_zero, List.setIfInBounds_toArray, List.set_cons_zero, List.set_cons_succ]
  refine Orders.take (fun w' => w'.cell? ⟨b, 0, none⟩ = some (.slice a q.length c) ∧ w'.cell? ⟨w.heap.size, 0, none⟩ = some (.int .u32 x0) ∧ w'.cell? ⟨w.heap.size, 1, none⟩ = some (.int .u8 x1) ∧ w'.cell? ⟨w.heap.size, 2, none⟩ = some (.int .u32 x2)) [10] (i := 5) (v := ?_) rfl (by kernel_rfl) (by kernel_rfl) (by kernel_rfl) (fun _ _ _ h => h) (by kernel_rfl) (fun L u hd h => h (10, (fun w' => w'.cell? ⟨b, 0, none⟩ = some (.slice a q.length c) ∧ w'.cell? ⟨w.heap.size, 0, none⟩ = some (.int .u32 x0) ∧ w'.cell? ⟨w.heap.size, 1, none⟩ = some (.int .u8 x1) ∧ w'.cell? ⟨w.heap.size, 2, none⟩ = some (.int .u32 x2))) (by simp) (hd 10 (by simp))) (by kernel_rfl) (by kernel_rfl) (Or.inl ⟨by rfl, ?_⟩) (HUN2.out _ _ HS2.out) (fun HU => ?_)
  rotate_left
  · intro u hSw
    try dsimp only at hSw
    obtain ⟨s0, s1, s2, s3⟩ := hSw
    go_simp
    try (with_reducible rfl)
  clear HU
  try simp only [Act.put, List.getElem_toArray, List.getElem_cons_succ, List.getElem_cons_zero, List.setIfInBounds_toArray, List.set_cons_zero, List.set_cons_succ]
  refine Orders.one (i := 6) (by kernel_rfl) rfl (fun K hK => ?_)
  go_simp
  have HL4 := hid (SrcC.lit wd2 #[.int .u32 x0, .int .u8 x1, .int .u32 x2] 32 1 _ rfl)
  have hb4 : Below wd2.heap.size wd2 (wd2.alloc (.cells #[.int .u32 x0, .int .u8 x1, .int .u32 x2] 32)) := (Below.refl _ _).alloc (Nat.le_refl _) _
  obtain ⟨w4, hw4⟩ : ∃ w4, w4 = wd2.alloc (.cells #[.int .u32 x0, .int .u8 x1, .int .u32 x2] 32) := ⟨_, rfl⟩
  rw [← hw4] at HL4 hb4
  rw [← hw4]
  have HB4 := hid hb4
  have HS4 := hid (show (fun w' : World => w'.cell? ⟨b, 0, none⟩ = some (.slice a q.length c) ∧ w'.cell? ⟨w.heap.size, 0, none⟩ = some (.int .u32 x0) ∧ w'.cell? ⟨w.heap.size, 1, none⟩ = some (.int .u8 x1) ∧ w'.cell? ⟨w.heap.size, 2, none⟩ = some (.int .u32 x2)) w4 from HKP.out w4 hb4)
  clear hw4 hb4
  refine hK.out _ _ (HUN2.out _ _ HS4.out) (fun HU => ?_)
  clear hK K HU
  try simp only [Act.put, List.getElem_toArray, List.getElem_cons_succ, List.getElem_cons_zero, List.setIfInBounds_toArray, List.set_cons_zero, List.set_cons_succ]
  refine Orders.one (i := 7) (by kernel_rfl) rfl (fun K hK => ?_)
  refine appsst2 (by rfl) 45 32 (.tmp 22) (.tmp 24) rfl lo 3 12 _ Try.underlying45 infoIt rfl (by decide) (.slice a q.length c) (.slice (some ⟨wd2.heap.size, 0, none⟩) 1 1) q.length 1 (q.length + 1) (cels q) _ rfl rfl (owns_below HOWN.out HB4.out) HL4.out rfl (by simp [Value.oneCell']) rfl (by omega) (by omega) (Nat.le_trans HLO.out HB4.out.size) ?_
  intro ad cp w5 hr5 hg5 hp5
  have HR5 := hid hr5
  have HG5 := hid hg5
  have HP5 := hid hp5
  have HS5 := hid (show (fun w' : World => w'.cell? ⟨b, 0, none⟩ = some (.slice a q.length c) ∧ w'.cell? ⟨w.heap.size, 0, none⟩ = some (.int .u32 x0) ∧ w'.cell? ⟨w.heap.size, 1, none⟩ = some (.int .u8 x1) ∧ w'.cell? ⟨w.heap.size, 2, none⟩ = some (.int .u32 x2)) w5 from HKG.out w5 (HG5.out) HB4.out)
  have c5 := HS5.out.1
  have f5 := HFZ.out w5 HG5.out HB4.out
  clear hr5 hg5 hp5
  refine hK.out _ _ (HUN2.out _ _ HS5.out) (fun HU => ?_)
  clear hK K HU
  try simp only [Act.put, List.getElem_toArray, List.getElem_cons_succ, List.getElem_cons_zero, List.setIfInBounds_toArray, List.set_cons_zero, List.set_cons_succ]
  refine Orders.take (fun _ => True) [] (i := 8) (v := ?_) rfl (by kernel_rfl) (by kernel_rfl) (by kernel_rfl) (fun _ _ _ h => h) (by kernel_rfl) (fun _ _ _ _ => trivial) (by kernel_rfl) (by kernel_rfl) (Or.inl ⟨by rfl, ?_⟩) (HUN2.out _ _ HS5.out) (fun HU => ?_)
  rotate_left
  · intro u hSw
    try dsimp only at hSw
    go_simp
    try (with_reducible rfl)
  clear HU
  try simp only [Act.put, List.getElem_toArray, List.getElem_cons_succ, List.getElem_cons_zero, List.setIfInBounds_toArray, List.set_cons_zero, List.set_cons_succ]
  refine Orders.take (fun _ => True) [] (i := 9) (v := ?_) rfl (by kernel_rfl) (by kernel_rfl) (by kernel_rfl) (fun _ _ _ h => h) (by kernel_rfl) (fun _ _ _ _ => trivial) (by kernel_rfl) (by kernel_rfl) (Or.inl ⟨by rfl, ?_⟩) (HUN2.out _ _ HS5.out) (fun HU => ?_)
  rotate_left
  · intro u hSw
    try dsimp only at hSw
    go_simp
    try (with_reducible rfl)
  clear HU
  try simp only [Act.put, List.getElem_toArray, List.getElem_cons_succ, List.getElem_cons_zero, List.setIfInBounds_toArray, List.set_cons_zero, List.set_cons_succ]
  refine Orders.one (i := 10) (by kernel_rfl) rfl (fun K hK => ?_)
  go_simp
  refine hK.out _ _ ?_ (fun HU => ?_)
  · intro c hc hl
    simp only [List.mem_cons, List.not_mem_nil, or_false] at hc
    subst hc
    exact absurd hl (fun h => Bool.noConfusion (h.symm.trans (by kernel_rfl : _ = true)))
  clear hK K HU c5 f5
  try simp only [Act.put, List.getElem_toArray, List.getElem_cons_succ, List.getElem_cons_zero, List.setIfInBounds_toArray, List.set_cons_zero, List.set_cons_succ]
  refine Orders.ends (by kernel_rfl) ?_ _
  obtain ⟨w6, hw6⟩ : ∃ w6, w6 = w5.setCell ⟨b, 0, none⟩ (.slice ad (q.length + 1) cp) := ⟨_, rfl⟩
  rw [← hw6]
  have h5 := fun p hp hne => HGB.out w4 w5 HG5.out HB4.out p hp hne
  have hb5 := (h5 b (by have := HSZ.out; omega) H.out.ne_b).trans HBD2.out
  have ho6 : ∀ p, p ≠ b → w6.heap[p]? = w5.heap[p]? := fun p hp => by rw [hw6]; exact Below.heap_setCell _ _ _ _ hp
  have HRW := hid (show RwAt w6 lo b (.slice ad (q.length + 1) cp) m (q ++ [(x0, x1, x2)]) from by
    have hlen : (q ++ [(x0, x1, x2)]).length = q.length + 1 := by simp
    refine ⟨?_, ?_, ?_, H.out.lob, H.out.lom, fun y hy => ?_, HAP.out, by rw [hlen]; omega⟩
    · rw [hw6, heap_setCell_arr' _ _ _ _ _ _ _ hb5]; simp
    · rw [hlen, cels_snoc]
      exact owns_by HR5.out fun k hk => ho6 k (owns_ne HR5.out hb5 (by decide) k hk)
    · rw [hlen]
      refine ((HMP2.out.block (w' := w6) ?_).ext (Nat.le_refl _) fun z hz => HPS.out z)
      exact (ho6 m hmb).trans (h5 m (by have := HSZ.out; omega) H.out.ne_m)
    · rcases List.mem_append.1 hy with hy | hy
      · exact H.out.ok y hy
      · simp at hy; rw [hy]; exact HKX.out)
  have HK6 := hid (show Keeps (Hb b m (.slice a q.length c)) w w6 from by
    have k5 : Keeps (Hb b m (.slice a q.length c)) wd2 w5 := by
      have hg := Keeps.of_grown HG5.out
      have hb := HB4.out
      exact ⟨hg.os.trans hb.os, hg.tape.trans hb.tape, hg.output.trans hb.output, Nat.le_trans hb.size hg.size, fun k hk hS => (hg.block k (by have := hb.size; omega) (fun e => hS (.inr (.inr e)))).trans (hb.block k hk)⟩
    have k6 := (HKD.out.trans k5).setCell (p := ⟨b, 0, none⟩) (fun _ => .inl rfl) (.slice ad (q.length + 1) cp)
    rw [hw6]; exact k6)
  have HPP := hid (show ∀ k, (Value.slice ad (q.length + 1) cp).ownBlock = some k → (Value.slice a q.length c).ownBlock = some k ∨ w.heap.size ≤ k from fun k hk => by
    rcases HP5.out k hk with h | h
    · exact .inl h
    · exact .inr (by have := HSZ.out; have := HB4.out.size; omega))
  clear hw6 h5 hb5 ho6
  go_wp2_with fail
  go_end0
  exact ⟨rfl, _, HRW.out, HK6.out, HPP.out⟩

end Go.Proofs.Ytcgfechodbmimaa
