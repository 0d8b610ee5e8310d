/-
  The last item is taken out.
-/
import Derived.Test.YtcgfechodbmimaaPrT
namespace Go.Proofs.Ytcgfechodbmimaa
open Go.RowKit Go.ChangeMaps
set_option linter.unusedVariables false
set_option linter.unusedSimpArgs false

theorem plc_last {r : List It} {x : It} (h : IdsApart (r ++ [x])) (z : Int) : plc r z = upd (plc (r ++ [x])) x.1 none z := by
  have hr : IdsApart r := by
    unfold IdsApart at h ⊢
    rw [List.map_append, List.nodup_append] at h
    exact h.1
  have hx : plc r x.1 = none := by
    rw [plc_none]
    intro y hy e
    unfold IdsApart at h
    rw [List.map_append, List.nodup_append] at h
    exact h.2.2 y.1 (List.mem_map_of_mem hy) x.1 (by simp) e
  unfold upd
  by_cases e : z = x.1
  · rw [if_pos e, e, hx]
  · rw [if_neg e, plc_snoc hr hx]
    unfold upd
    rw [if_neg e]
theorem owns_cut {w : World} {lo g n cap : Nat} {e : TypeId} {r : List It} {x : It} (h : w.ownsRow lo e 3 (.slice (some ⟨g, 0, none⟩) n cap) n (cels (r ++ [x]))) (hn : n = r.length + 1) : w.ownsRow lo e 3 (.slice (some ⟨g, 0, none⟩) r.length cap) r.length (cels r) := by
  refine ⟨cels_len r, .inr ?_⟩
  rcases h.2 with ⟨h', _⟩ | ⟨g', cap', cur, h', hb, hg, h1, h2, h3, h4⟩
  · cases h'
  · simp only [Value.slice.injEq, Option.some.injEq, Addr.mk.injEq, and_true, true_and] at h'
    obtain ⟨rfl, rfl⟩ := h'
    refine ⟨g, cap, cur, rfl, hb, hg, by omega, h2, h3, ?_⟩
    have e1 : cur.toList.take (r.length * 3) = (cur.toList.take (n * 3)).take (r.length * 3) := by rw [List.take_take]; congr 1; omega
    rw [e1, h4, cels_snoc, List.take_append_of_le_length (by rw [cels_len]; omega), List.take_of_length_le (by rw [cels_len]; omega)]

set_option maxRecDepth 100000 in
set_option maxHeartbeats 8000000 in
theorem qpop_any (w : World) (lo b m : Nat) (v : Value) (r : List It) (x : It) (h : RwAt w lo b v m (r ++ [x])) :
    Calls Try.prog 74 #[.pointer (some ⟨b, 0, none⟩)] w fun e w' => e = .returned (.iface 32 (itv x)) ∧ ∃ v', RwAt w' lo b v' m r ∧ Keeps (Hb b m v) w w' ∧ v'.ownBlock = v.ownBlock := by
  have hlen : (r ++ [x]).length = r.length + 1 := by simp
  obtain ⟨g, c, rfl, hg1, hg2, hgb, hgm, hc1, hc2⟩ := h.own' (k := r.length) (by omega)
  have hlb := h.lt
  have hlm := h.mp.lt
  have hmb : m ≠ b := by
    rintro rfl
    obtain ⟨es, clock, hm⟩ := h.mp.map
    rw [h.blk] at hm; simp at hm
  obtain ⟨a0, a1, a2, -, -, -⟩ := h.item (k := r.length) (by omega)
  have eit : it (r ++ [x]) r.length = x := it_end r x
  rw [eit] at a0 a1 a2
  have c0 : w.cell? ⟨b, 0, none⟩ = some (.slice (some ⟨g, 0, none⟩) (r ++ [x]).length c) := (cell_of_row w _ _ _ _ _ h.blk).trans rfl
  have f0 : w.frozen? ⟨b, 0, none⟩ = false := frozen_of_row _ _ _ _ _ h.blk
  have hlr := h.len
  have H := hid h
  have HKX := hid (h.ok x (by simp))
  have HPX := hid (show plc (r ++ [x]) x.1 = some r.length from (plc_some h.ids).2 ⟨by omega, by rw [eit]⟩)
  have HPL := hid (fun z => plc_last h.ids z)
  have HAP := hid (show IdsApart r by
    have := h.ids
    unfold IdsApart at this ⊢
    rw [List.map_append, List.nodup_append] at this
    exact this.1)
  obtain ⟨x0, x1, x2⟩ := x
  unfold itv
  rw [hlen] at c0 hc1 hlr
  dsimp only at *
  clear h eit
  obtain ⟨n, hn⟩ : ∃ n, n = r.length := ⟨_, rfl⟩
  rw [← hn] at c0 a0 a1 a2 hc1 hlr
  have HN := hid hn
  have hnn : (n : Int) < (n : Int) + 1 := by omega
  clear hn
  go_enter Try.func74, Try.ntmps74
  go_wp2_with fail
  obtain ⟨w0, hw0⟩ : ∃ y, y = w.setCell ⟨b, 0, none⟩ (.slice (some ⟨g, 0, none⟩) n c) := ⟨_, rfl⟩
  obtain ⟨w1, hw1⟩ : ∃ y, y = w0.alloc (.cells #[.int .u32 x0, .int .u8 x1, .int .u32 x2] 32) := ⟨_, rfl⟩
  rw [← hw0, ← hw1]
  have hs0 : w0.heap.size = w.heap.size := by rw [hw0]; simp [World.setCell]
  have ho0 : ∀ p, p ≠ b → w0.heap[p]? = w.heap[p]? := fun p hp => by rw [hw0]; exact Below.heap_setCell _ _ _ _ hp
  have hb0 : w0.heap[b]? = some (.cells #[.slice (some ⟨g, 0, none⟩) n c, .map (some m)] 53 (0, 0)) := by rw [hw0, heap_setCell_arr' _ _ _ _ _ _ _ H.out.blk]; simp
  have hb01 : Below w0.heap.size w0 w1 := by rw [hw1]; exact (Below.refl _ _).alloc (Nat.le_refl _) _
  have hs1 : w1.heap.size = w.heap.size + 1 := by rw [hw1]; simp [hs0]
  have hbox : w1.heap[w.heap.size]? = some (.cells #[.int .u32 x0, .int .u8 x1, .int .u32 x2] 32 (0, 0)) := by rw [hw1, ← hs0]; exact heap_alloc_new w0 _
  have hb1 := (hb01.block b (by omega)).trans hb0
  have ho1 : ∀ p, p < w.heap.size → p ≠ b → w1.heap[p]? = w.heap[p]? := fun p hp hn => (hb01.block p (by omega)).trans (ho0 p hn)
  obtain ⟨w2, hrun1, hmp2, ht2⟩ := (H.out.mp.block (w' := w1.drew) (ho1 m hlm hmb)).del HKX.out (by rw [HPX.out]; rfl)
  have hq2 := turned_heap ht2
  obtain ⟨wd1, hwd1⟩ : ∃ y, y = w1.drew := ⟨_, rfl⟩
  have HS1 := hid (show (fun w' : World => w'.cell? ⟨b, 1, none⟩ = some (.map (some m)) ∧ w'.cell? ⟨w.heap.size, 0, none⟩ = some (.int .u32 x0)) wd1 from by
    rw [hwd1]
    exact ⟨(cell_of_row _ _ _ _ _ _ hb1).trans rfl, (cell_of_row w1 _ _ _ _ _ hbox).trans rfl⟩)
  have hb2 := (hq2.2 b (Ne.symm hmb)).trans (show w1.drew.heap[b]? = _ from hb1)
  have hx2 := (hq2.2 w.heap.size (by omega)).trans (show w1.drew.heap[w.heap.size]? = _ from hbox)
  have HRW := hid (show RwAt w2 lo b (.slice (some ⟨g, 0, none⟩) r.length c) m r from by
    refine ⟨by rw [← HN.out]; exact hb2, ?_, ?_, H.out.lob, H.out.lom, fun y hy => H.out.ok y (List.mem_append_left _ hy), HAP.out, by rw [← HN.out]; omega⟩
    · refine owns_by (owns_cut H.out.own (by simp)) fun k hk => ?_
      have : g = k := by simpa [Value.ownBlock] using hk
      subst this
      exact (hq2.2 g hgm).trans (ho1 g hg2 hgb)
    · refine (hmp2.ext ?_ fun z hz => HPL.out z)
      rw [List.length_append]; simp)
  have HK2 := hid (show Keeps (Hb b m (.slice (some ⟨g, 0, none⟩) (r ++ [(x0, x1, x2)]).length c)) w w2 from by
    have h0 : Keeps (Hb b m (.slice (some ⟨g, 0, none⟩) (r ++ [(x0, x1, x2)]).length c)) w w0 := by rw [hw0]; exact (⟨rfl, rfl, rfl, Nat.le_refl _, fun _ _ _ => rfl⟩ : Keeps _ w w).setCell (p := ⟨b, 0, none⟩) (fun _ => .inl rfl) _
    have h1 : Keeps (Hb b m (.slice (some ⟨g, 0, none⟩) (r ++ [(x0, x1, x2)]).length c)) w w1.drew := by rw [hw1]; exact (h0.alloc _).drew
    exact turned_keeps h1 ht2 (.inr (.inl rfl)))
  have HX2 := hid (show w2.heap[w.heap.size]? = _ from hx2)
  rw [← hwd1] at hrun1
  have HR1 := hid hrun1
  clear hw0 hw1 hs0 ho0 hb0 hb01 hs1 hbox hb1 ho1 hrun1 hmp2 ht2 hq2 hb2 hx2 c0 f0 a0 a1 a2
  have HUN1 := hid (show ∀ (W : World) (L : Array Bool), (fun w' : World => w'.cell? ⟨b, 1, none⟩ = some (.map (some m)) ∧ w'.cell? ⟨w.heap.size, 0, none⟩ = some (.int .u32 x0)) W → UntilAll [(6, (fun w' => w'.cell? ⟨b, 1, none⟩ = some (.map (some m)) ∧ w'.cell? ⟨w.heap.size, 0, none⟩ = some (.int .u32 x0)))] L W from by
    intro W L hW c hc _
    simp only [List.mem_cons, List.not_mem_nil, or_false] at hc
    subst hc
    exact hW)
  refine Orders.begins (C := [(6, (fun w' => w'.cell? ⟨b, 1, none⟩ = some (.map (some m)) ∧ w'.cell? ⟨w.heap.size, 0, none⟩ = some (.int .u32 x0)))]) (by kernel_rfl) ?_
  rw [← hwd1]
  clear hwd1
  refine Orders.take (fun _ => True) [] (i := 0) (v := ?_) rfl (by kernel_rfl) (by kernel_rfl) (by kernel_rfl) (fun _ _ _ h => h) (by kernel_rfl) (fun _ _ _ _ => trivial) (by kernel_rfl) (by kernel_rfl) (Or.inl ⟨by rfl, ?_⟩) (HUN1.out _ _ HS1.out) (fun HU => ?_)
  rotate_left
  · intro u hSw
    try dsimp only at hSw
    go_simp
    try (with_reducible rfl)
  clear HU
  try simp only [Act.put, List.getElem_toArray, List.getElem_cons_succ, List.getElem_cons_zero, List.setIfInBounds_toArray, List.set_cons_zero, List.set_cons_succ]
  refine Orders.take (fun _ => True) [] (i := 1) (v := ?_) rfl (by kernel_rfl) (by kernel_rfl) (by kernel_rfl) (fun _ _ _ h => h) (by kernel_rfl) (fun _ _ _ _ => trivial) (by kernel_rfl) (by kernel_rfl) (Or.inl ⟨by rfl, ?_⟩) (HUN1.out _ _ HS1.out) (fun HU => ?_)
  rotate_left
  · intro u hSw
    try dsimp only at hSw
    go_simp
    try (with_reducible rfl)
  clear HU
  try simp only [Act.put, List.getElem_toArray, List.getElem_cons_succ, List.getElem_cons_zero, List.setIfInBounds_toArray, List.set_cons_zero, List.set_cons_succ]
  refine Orders.take (fun _ => True) [] (i := 2) (v := ?_) rfl (by kernel_rfl) (by kernel_rfl) (by kernel_rfl) (fun _ _ _ h => h) (by kernel_rfl) (fun _ _ _ _ => trivial) (by kernel_rfl) (by kernel_rfl) (Or.inl ⟨by rfl, ?_⟩) (HUN1.out _ _ HS1.out) (fun HU => ?_)
  rotate_left
  · intro u hSw
    try dsimp only at hSw
    go_simp
    try (with_reducible rfl)
  clear HU
  try simp only [Act.put, List.getElem_toArray, List.getElem_cons_succ, List.getElem_cons_zero, List.setIfInBounds_toArray, List.set_cons_zero, List.set_cons_succ]
  refine Orders.take (fun w' => w'.cell? ⟨b, 1, none⟩ = some (.map (some m)) ∧ w'.cell? ⟨w.heap.size, 0, none⟩ = some (.int .u32 x0)) [6] (i := 3) (v := ?_) rfl (by kernel_rfl) (by kernel_rfl) (by kernel_rfl) (fun _ _ _ h => h) (by kernel_rfl) (fun L u hd h => h (6, (fun w' => w'.cell? ⟨b, 1, none⟩ = some (.map (some m)) ∧ w'.cell? ⟨w.heap.size, 0, none⟩ = some (.int .u32 x0))) (by simp) (hd 6 (by simp))) (by kernel_rfl) (by kernel_rfl) (Or.inl ⟨by rfl, ?_⟩) (HUN1.out _ _ HS1.out) (fun HU => ?_)
  rotate_left
  · intro u hSw
    try dsimp only at hSw
    obtain ⟨s0, s1⟩ := hSw
    go_simp
    try (with_reducible rfl)
  clear HU
  try simp only [Act.put, List.getElem_toArray, List.getElem_cons_succ, List.getElem_cons_zero, List.setIfInBounds_toArray, List.set_cons_zero, List.set_cons_succ]
  refine Orders.take (fun _ => True) [] (i := 4) (v := ?_) rfl (by kernel_rfl) (by kernel_rfl) (by kernel_rfl) (fun _ _ _ h => h) (by kernel_rfl) (fun _ _ _ _ => trivial) (by kernel_rfl) (by kernel_rfl) (Or.inl ⟨by rfl, ?_⟩) (HUN1.out _ _ HS1.out) (fun HU => ?_)
  rotate_left
  · intro u hSw
    try dsimp only at hSw
    go_simp
    try (with_reducible rfl)
  clear HU
  try simp only [Act.put, List.getElem_toArray, List.getElem_cons_succ, List.getElem_cons_zero, List.setIfInBounds_toArray, List.set_cons_zero, List.set_cons_succ]
  refine Orders.take (fun w' => w'.cell? ⟨b, 1, none⟩ = some (.map (some m)) ∧ w'.cell? ⟨w.heap.size, 0, none⟩ = some (.int .u32 x0)) [6] (i := 5) (v := ?_) rfl (by kernel_rfl) (by kernel_rfl) (by kernel_rfl) (fun _ _ _ h => h) (by kernel_rfl) (fun L u hd h => h (6, (fun w' => w'.cell? ⟨b, 1, none⟩ = some (.map (some m)) ∧ w'.cell? ⟨w.heap.size, 0, none⟩ = some (.int .u32 x0))) (by simp) (hd 6 (by simp))) (by kernel_rfl) (by kernel_rfl) (Or.inl ⟨by rfl, ?_⟩) (HUN1.out _ _ HS1.out) (fun HU => ?_)
  rotate_left
  · intro u hSw
    try dsimp only at hSw
    obtain ⟨s0, s1⟩ := hSw
    go_simp
    try (with_reducible rfl)
  clear HU
  try simp only [Act.put, List.getElem_toArray, List.getElem_cons_succ, List.getElem_cons_zero, List.setIfInBounds_toArray, List.set_cons_zero, List.set_cons_succ]
  refine Orders.one (i := 6) (by kernel_rfl) rfl (fun K hK => ?_)
  have hrun := HR1.out
  go_simp
  refine hK.out _ _ ?_ (fun HU => ?_)
  · intro c hc hl
    simp only [List.mem_cons, List.not_mem_nil, or_false] at hc
    subst hc
    exact absurd hl (fun h => Bool.noConfusion (h.symm.trans (by kernel_rfl : _ = true)))
  clear hK K HU hrun
  try simp only [Act.put, List.getElem_toArray, List.getElem_cons_succ, List.getElem_cons_zero, List.setIfInBounds_toArray, List.set_cons_zero, List.set_cons_succ]
  refine Orders.ends (by kernel_rfl) ?_ _
  have e0 : w2.cell? ⟨w.heap.size, 0, none⟩ = some (.int .u32 x0) := (cell_of_row _ _ _ _ _ _ HX2.out).trans rfl
  have e1 : w2.cell? ⟨w.heap.size, 1, none⟩ = some (.int .u8 x1) := (cell_of_row _ _ _ _ _ _ HX2.out).trans rfl
  have e2 : w2.cell? ⟨w.heap.size, 2, none⟩ = some (.int .u32 x2) := (cell_of_row _ _ _ _ _ _ HX2.out).trans rfl
  go_wp2_with fail
  go_ret
  exact ⟨rfl, _, HRW.out, HK2.out, rfl⟩

end Go.Proofs.Ytcgfechodbmimaa
