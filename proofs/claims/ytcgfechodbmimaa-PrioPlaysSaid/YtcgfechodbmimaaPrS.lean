/-
  Two items change places.
-/
import Derived.Test.YtcgfechodbmimaaPrQ
import Derived.Test.YtcgfechodbmimaaOrd
namespace Go.Proofs.Ytcgfechodbmimaa
open Go.RowKit Go.ChangeMaps
set_option linter.unusedVariables false
set_option linter.unusedSimpArgs false

theorem plc_swp {q : List It} (h : IdsApart q) {i j : Nat} (hi : i < q.length) (hj : j < q.length) (z : Int) : plc (swp q i j) z = upd (upd (plc q) (it q j).1 (some i)) (it q i).1 (some j) z := by
  have hA : IdsApart (swp q i j) := h.perm (swp_perm hi hj).symm
  have hs := it_swp hi hj
  unfold upd
  by_cases e1 : z = (it q i).1
  · rw [if_pos e1]
    refine (plc_some hA).2 ⟨by rw [swp_len]; exact hj, ?_⟩
    rw [hs, if_pos rfl, e1]
  · rw [if_neg e1]
    by_cases e2 : z = (it q j).1
    · rw [if_pos e2]
      refine (plc_some hA).2 ⟨by rw [swp_len]; exact hi, ?_⟩
      have hij : i ≠ j := by rintro rfl; exact e1 e2
      rw [hs, if_neg hij, if_pos rfl, e2]
    · rw [if_neg e2]
      cases hp : plc q z with
      | none =>
        rw [plc_none] at hp ⊢
        exact fun x hx => hp x ((swp_perm hi hj).mem_iff.1 hx)
      | some k =>
        obtain ⟨hk, ez⟩ := (plc_some h).1 hp
        refine (plc_some hA).2 ⟨by rw [swp_len]; exact hk, ?_⟩
        rw [hs, if_neg (by rintro rfl; exact e2 ez.symm), if_neg (by rintro rfl; exact e1 ez.symm), ez]
theorem own_item {w : World} {lo g n c : Nat} {e : TypeId} {q : List It} (h : w.ownsRow lo e 3 (.slice (some ⟨g, 0, none⟩) n c) n (cels q)) {k : Nat} (hk : k < q.length) :
    w.cell? ⟨g, k * 3, none⟩ = some (.int .u32 (it q k).1) ∧ w.cell? ⟨g, k * 3 + 1, none⟩ = some (.int .u8 (it q k).2.1) ∧ w.cell? ⟨g, k * 3 + 2, none⟩ = some (.int .u32 (it q k).2.2) ∧
    w.frozen? ⟨g, k * 3, none⟩ = false ∧ w.frozen? ⟨g, k * 3 + 1, none⟩ = false ∧ w.frozen? ⟨g, k * 3 + 2, none⟩ = false := by
  have hl := cels_len q
  have hn := h.1
  have f : ∀ j, j < 3 → w.cell? ⟨g, k * 3 + j, none⟩ = (cels q)[k * 3 + j]? := fun j hj => h.cellAt (k * 3 + j) (by omega)
  refine ⟨(f 0 (by omega)).trans (cels_at q k 0 _ hk rfl), (f 1 (by omega)).trans (cels_at q k 1 _ hk rfl), (f 2 (by omega)).trans (cels_at q k 2 _ hk rfl), ?_, ?_, ?_⟩ <;> exact owns_frozen h _
theorem turned_keeps {S : Nat → Prop} {a w w' : World} {m : Nat} (ha : Keeps S a w) (h : w.mapTurned w' m) (hm : S m) : Keeps S a w' := by
  obtain ⟨h1, h2⟩ := turned_heap h
  obtain ⟨es, clock, es', clock', hb, rfl⟩ := h
  exact ⟨ha.os, ha.tape, ha.output, by rw [h1]; exact ha.size, fun k hk hS => (h2 k (fun e => hS (by rw [e]; exact hm))).trans (ha.block k hk hS)⟩
theorem set3_keeps {S : Nat → Prop} {a w : World} (ha : Keeps S a w) (g o : Nat) (A B C : Value) (hg : S g) : Keeps S a (set3 w g o A B C) :=
  ((ha.setCell (p := ⟨g, o, none⟩) (fun _ => hg) A).setCell (p := ⟨g, o + 1, none⟩) (fun _ => hg) B).setCell (p := ⟨g, o + 2, none⟩) (fun _ => hg) C
/-- The blocks of a heap. -/
def Hb (b m : Nat) (v : Value) (k : Nat) : Prop := k = b ∨ k = m ∨ v.ownBlock = some k

set_option maxRecDepth 100000 in
set_option maxHeartbeats 8000000 in
theorem qswap_any (w : World) (lo b m : Nat) (v : Value) (q : List It) (i j : Nat) (h : RwAt w lo b v m q) (hi : i < q.length) (hj : j < q.length) :
    Calls Try.prog 76 #[.pointer (some ⟨b, 0, none⟩), .int .i64 i, .int .i64 j] w fun e w' => e = .returned (.tuple #[]) ∧ RwAt w' lo b v m (swp q i j) ∧ Keeps (Hb b m v) w w' := by
  obtain ⟨g, c, rfl, hg1, hg2, hgb, hgm, hc1, hc2⟩ := h.own' hi
  have hlb := h.lt
  have hmb : m ≠ b := by
    rintro rfl
    obtain ⟨es, clock, hm⟩ := h.mp.map
    rw [h.blk] at hm; simp at hm
  have H := hid h
  have HPI := hid (show plc q (it q i).1 = some i from (plc_some h.ids).2 ⟨hi, rfl⟩)
  have HPJ := hid (show plc q (it q j).1 = some j from (plc_some h.ids).2 ⟨hj, rfl⟩)
  have HKI := hid (h.ok _ (it_mem hi))
  have HKJ := hid (h.ok _ (it_mem hj))
  have hq := h.len
  have hii : (i : Int) < (q.length : Int) := by omega
  have hjj : (j : Int) < (q.length : Int) := by omega
  obtain ⟨x, hx⟩ : ∃ x, x = it q i := ⟨_, rfl⟩
  obtain ⟨y, hy⟩ : ∃ y, y = it q j := ⟨_, rfl⟩
  obtain ⟨x0, x1, x2⟩ := x
  obtain ⟨y0, y1, y2⟩ := y
  have HX := hid hx
  have HY := hid hy
  obtain ⟨wd, hwd⟩ : ∃ wd, wd = w.drew := ⟨_, rfl⟩
  have HWD := hid hwd
  have hdr : Below w.heap.size w wd := by rw [hwd]; exact (Below.refl _ w).drew
  have hd := h.below hdr
  have HD := hid hd
  have HS0 := hid (show (fun w' : World => w'.cell? ⟨b, 0, none⟩ = some (.slice (some ⟨g, 0, none⟩) q.length c) ∧ w'.cell? ⟨g, i * 3, none⟩ = some (.int .u32 x0) ∧ w'.cell? ⟨g, i * 3 + 1, none⟩ = some (.int .u8 x1) ∧ w'.cell? ⟨g, i * 3 + 2, none⟩ = some (.int .u32 x2) ∧ w'.cell? ⟨g, j * 3, none⟩ = some (.int .u32 y0) ∧ w'.cell? ⟨g, j * 3 + 1, none⟩ = some (.int .u8 y1) ∧ w'.cell? ⟨g, j * 3 + 2, none⟩ = some (.int .u32 y2)) wd from by
    obtain ⟨a0, a1, a2, -, -, -⟩ := hd.item hi
    obtain ⟨b0, b1, b2, -, -, -⟩ := hd.item hj
    rw [← hx] at a0 a1 a2
    rw [← hy] at b0 b1 b2
    exact ⟨(cell_of_row _ _ _ _ _ _ hd.blk).trans rfl, a0, a1, a2, b0, b1, b2⟩)
  have HST0 := hid (show wd.cell? ⟨g, i * 3, none⟩ = some (.int .u32 x0) ∧ wd.cell? ⟨g, i * 3 + 1, none⟩ = some (.int .u8 x1) ∧ wd.cell? ⟨g, i * 3 + 2, none⟩ = some (.int .u32 x2) ∧ wd.frozen? ⟨g, i * 3, none⟩ = false ∧ wd.frozen? ⟨g, i * 3 + 1, none⟩ = false ∧ wd.frozen? ⟨g, i * 3 + 2, none⟩ = false by
    have := hd.item hi
    rw [← hx] at this
    exact this)
  have HOW1 := hid (fun (w1 : World) (hw1 : w1 = ((wd.setCell ⟨g, i * 3, none⟩ (.int .u32 y0)).setCell ⟨g, i * 3 + 1, none⟩ (.int .u8 y1)).setCell ⟨g, i * 3 + 2, none⟩ (.int .u32 y2)) => show w1.ownsRow lo 32 3 (.slice (some ⟨g, 0, none⟩) q.length c) q.length (cels (q.set i (y0, y1, y2))) by
    rw [hw1]; exact stored3 hd.own hi (y0, y1, y2))
  have HST1 := hid (fun (w1 : World) (hw1 : w1 = ((wd.setCell ⟨g, i * 3, none⟩ (.int .u32 y0)).setCell ⟨g, i * 3 + 1, none⟩ (.int .u8 y1)).setCell ⟨g, i * 3 + 2, none⟩ (.int .u32 y2)) => show ∃ u0 u1 u2, w1.cell? ⟨g, j * 3, none⟩ = some u0 ∧ w1.cell? ⟨g, j * 3 + 1, none⟩ = some u1 ∧ w1.cell? ⟨g, j * 3 + 2, none⟩ = some u2 ∧ w1.frozen? ⟨g, j * 3, none⟩ = false ∧ w1.frozen? ⟨g, j * 3 + 1, none⟩ = false ∧ w1.frozen? ⟨g, j * 3 + 2, none⟩ = false from
    ⟨_, _, _, own_item (HOW1.out w1 hw1) (by rw [List.length_set]; exact hj)⟩)
  clear h hd hdr hx hy
  go_enter Try.func76, Try.ntmps76
  go_wp2_with fail
  have HUN := hid (show ∀ (W : World) (L : Array Bool), (fun w' => w'.cell? ⟨b, 0, none⟩ = some (.slice (some ⟨g, 0, none⟩) q.length c) ∧ w'.cell? ⟨g, i * 3, none⟩ = some (.int .u32 x0) ∧ w'.cell? ⟨g, i * 3 + 1, none⟩ = some (.int .u8 x1) ∧ w'.cell? ⟨g, i * 3 + 2, none⟩ = some (.int .u32 x2) ∧ w'.cell? ⟨g, j * 3, none⟩ = some (.int .u32 y0) ∧ w'.cell? ⟨g, j * 3 + 1, none⟩ = some (.int .u8 y1) ∧ w'.cell? ⟨g, j * 3 + 2, none⟩ = some (.int .u32 y2)) W → UntilAll [(25, (fun w' => w'.cell? ⟨b, 0, none⟩ = some (.slice (some ⟨g, 0, none⟩) q.length c) ∧ w'.cell? ⟨g, i * 3, none⟩ = some (.int .u32 x0) ∧ w'.cell? ⟨g, i * 3 + 1, none⟩ = some (.int .u8 x1) ∧ w'.cell? ⟨g, i * 3 + 2, none⟩ = some (.int .u32 x2) ∧ w'.cell? ⟨g, j * 3, none⟩ = some (.int .u32 y0) ∧ w'.cell? ⟨g, j * 3 + 1, none⟩ = some (.int .u8 y1) ∧ w'.cell? ⟨g, j * 3 + 2, none⟩ = some (.int .u32 y2)))] L W from by
    intro W L hW c hc _
    simp only [List.mem_cons, List.not_mem_nil, or_false] at hc
    subst hc
    exact hW)
  refine Orders.begins (C := [(25, (fun w' => w'.cell? ⟨b, 0, none⟩ = some (.slice (some ⟨g, 0, none⟩) q.length c) ∧ w'.cell? ⟨g, i * 3, none⟩ = some (.int .u32 x0) ∧ w'.cell? ⟨g, i * 3 + 1, none⟩ = some (.int .u8 x1) ∧ w'.cell? ⟨g, i * 3 + 2, none⟩ = some (.int .u32 x2) ∧ w'.cell? ⟨g, j * 3, none⟩ = some (.int .u32 y0) ∧ w'.cell? ⟨g, j * 3 + 1, none⟩ = some (.int .u8 y1) ∧ w'.cell? ⟨g, j * 3 + 2, none⟩ = some (.int .u32 y2)))]) (by kernel_rfl) ?_
  rw [← hwd]
  clear hwd
  refine Orders.take (fun _ => True) [] (i := 0) (v := ?_) rfl (by kernel_rfl) (by kernel_rfl) (by kernel_rfl) (fun _ _ _ h => h) (by kernel_rfl) (fun _ _ _ _ => trivial) (by kernel_rfl) (by kernel_rfl) (Or.inl ⟨by rfl, ?_⟩) (HUN.out _ _ HS0.out) (fun HU => ?_)
  rotate_left
  · intro u hSw
    try dsimp only at hSw
    go_simp
    try (with_reducible rfl)
  clear HU
  try simp only [Act.put, List.getElem_toArray, List.getElem_cons_succ, List.getElem_cons_zero, List.setIfInBounds_toArray, List.set_cons_zero, List.set_cons_succ]
  refine Orders.take (fun _ => True) [] (i := 1) (v := ?_) rfl (by kernel_rfl) (by kernel_rfl) (by kernel_rfl) (fun _ _ _ h => h) (by kernel_rfl) (fun _ _ _ _ => trivial) (by kernel_rfl) (by kernel_rfl) (Or.inl ⟨by rfl, ?_⟩) (HUN.out _ _ HS0.out) (fun HU => ?_)
  rotate_left
  · intro u hSw
    try dsimp only at hSw
    go_simp
    try (with_reducible rfl)
  clear HU
  try simp only [Act.put, List.getElem_toArray, List.getElem_cons_succ, List.getElem_cons_zero, List.setIfInBounds_toArray, List.set_cons_zero, List.set_cons_succ]
  refine Orders.take (fun _ => True) [] (i := 2) (v := ?_) rfl (by kernel_rfl) (by kernel_rfl) (by kernel_rfl) (fun _ _ _ h => h) (by kernel_rfl) (fun _ _ _ _ => trivial) (by kernel_rfl) (by kernel_rfl) (Or.inl ⟨by rfl, ?_⟩) (HUN.out _ _ HS0.out) (fun HU => ?_)
  rotate_left
  · intro u hSw
    try dsimp only at hSw
    go_simp
    try (with_reducible rfl)
  clear HU
  try simp only [Act.put, List.getElem_toArray, List.getElem_cons_succ, List.getElem_cons_zero, List.setIfInBounds_toArray, List.set_cons_zero, List.set_cons_succ]
  refine Orders.take (fun w' => w'.cell? ⟨b, 0, none⟩ = some (.slice (some ⟨g, 0, none⟩) q.length c) ∧ w'.cell? ⟨g, i * 3, none⟩ = some (.int .u32 x0) ∧ w'.cell? ⟨g, i * 3 + 1, none⟩ = some (.int .u8 x1) ∧ w'.cell? ⟨g, i * 3 + 2, none⟩ = some (.int .u32 x2) ∧ w'.cell? ⟨g, j * 3, none⟩ = some (.int .u32 y0) ∧ w'.cell? ⟨g, j * 3 + 1, none⟩ = some (.int .u8 y1) ∧ w'.cell? ⟨g, j * 3 + 2, none⟩ = some (.int .u32 y2)) [25] (i := 3) (v := ?_) rfl (by kernel_rfl) (by kernel_rfl) (by kernel_rfl) (fun _ _ _ h => h) (by kernel_rfl) (fun L u hd h => h (25, (fun w' => w'.cell? ⟨b, 0, none⟩ = some (.slice (some ⟨g, 0, none⟩) q.length c) ∧ w'.cell? ⟨g, i * 3, none⟩ = some (.int .u32 x0) ∧ w'.cell? ⟨g, i * 3 + 1, none⟩ = some (.int .u8 x1) ∧ w'.cell? ⟨g, i * 3 + 2, none⟩ = some (.int .u32 x2) ∧ w'.cell? ⟨g, j * 3, none⟩ = some (.int .u32 y0) ∧ w'.cell? ⟨g, j * 3 + 1, none⟩ = some (.int .u8 y1) ∧ w'.cell? ⟨g, j * 3 + 2, none⟩ = some (.int .u32 y2))) (by simp) (hd 25 (by simp))) (by kernel_rfl) (by kernel_rfl) (Or.inl ⟨by rfl, ?_⟩) (HUN.out _ _ HS0.out) (fun HU => ?_)
  rotate_left
  · intro u hSw
    try dsimp only at hSw
    obtain ⟨s0, s1, s2, s3, s4, s5, s6⟩ := hSw
    go_simp
    try (with_reducible rfl)
  clear HU
  try simp only [Act.put, List.getElem_toArray, List.getElem_cons_succ, List.getElem_cons_zero, List.setIfInBounds_toArray, List.set_cons_zero, List.set_cons_succ]
  refine Orders.take (fun _ => True) [] (i := 4) (v := ?_) rfl (by kernel_rfl) (by kernel_rfl) (by kernel_rfl) (fun _ _ _ h => h) (by kernel_rfl) (fun _ _ _ _ => trivial) (by kernel_rfl) (by kernel_rfl) (Or.inl ⟨by rfl, ?_⟩) (HUN.out _ _ HS0.out) (fun HU => ?_)
  rotate_left
  · intro u hSw
    try dsimp only at hSw
    go_simp
    try (with_reducible rfl)
  clear HU
  try simp only [Act.put, List.getElem_toArray, List.getElem_cons_succ, List.getElem_cons_zero, List.setIfInBounds_toArray, List.set_cons_zero, List.set_cons_succ]
  refine Orders.take (fun _ => True) [] (i := 5) (v := ?_) rfl (by kernel_rfl) (by kernel_rfl) (by kernel_rfl) (fun _ _ _ h => h) (by kernel_rfl) (fun _ _ _ _ => trivial) (by kernel_rfl) (by kernel_rfl) (Or.inl ⟨by rfl, ?_⟩) (HUN.out _ _ HS0.out) (fun HU => ?_)
  rotate_left
  · intro u hSw
    try dsimp only at hSw
    go_simp
    try (with_reducible rfl)
  clear HU
  try simp only [Act.put, List.getElem_toArray, List.getElem_cons_succ, List.getElem_cons_zero, List.setIfInBounds_toArray, List.set_cons_zero, List.set_cons_succ]
  refine Orders.take (fun _ => True) [] (i := 6) (v := ?_) rfl (by kernel_rfl) (by kernel_rfl) (by kernel_rfl) (fun _ _ _ h => h) (by kernel_rfl) (fun _ _ _ _ => trivial) (by kernel_rfl) (by kernel_rfl) (Or.inl ⟨by rfl, ?_⟩) (HUN.out _ _ HS0.out) (fun HU => ?_)
  rotate_left
  · intro u hSw
    try dsimp only at hSw
    go_simp
    try (with_reducible rfl)
  clear HU
  try simp only [Act.put, List.getElem_toArray, List.getElem_cons_succ, List.getElem_cons_zero, List.setIfInBounds_toArray, List.set_cons_zero, List.set_cons_succ]
  refine Orders.take (fun _ => True) [] (i := 7) (v := ?_) rfl (by kernel_rfl) (by kernel_rfl) (by kernel_rfl) (fun _ _ _ h => h) (by kernel_rfl) (fun _ _ _ _ => trivial) (by kernel_rfl) (by kernel_rfl) (Or.inl ⟨by rfl, ?_⟩) (HUN.out _ _ HS0.out) (fun HU => ?_)
  rotate_left
  · intro u hSw
    try dsimp only at hSw
    go_simp
    try (with_reducible rfl)
  clear HU
  try simp only [Act.put, List.getElem_toArray, List.getElem_cons_succ, List.getElem_cons_zero, List.setIfInBounds_toArray, List.set_cons_zero, List.set_cons_succ]
  refine Orders.take (fun w' => w'.cell? ⟨b, 0, none⟩ = some (.slice (some ⟨g, 0, none⟩) q.length c) ∧ w'.cell? ⟨g, i * 3, none⟩ = some (.int .u32 x0) ∧ w'.cell? ⟨g, i * 3 + 1, none⟩ = some (.int .u8 x1) ∧ w'.cell? ⟨g, i * 3 + 2, none⟩ = some (.int .u32 x2) ∧ w'.cell? ⟨g, j * 3, none⟩ = some (.int .u32 y0) ∧ w'.cell? ⟨g, j * 3 + 1, none⟩ = some (.int .u8 y1) ∧ w'.cell? ⟨g, j * 3 + 2, none⟩ = some (.int .u32 y2)) [25] (i := 8) (v := ?_) rfl (by kernel_rfl) (by kernel_rfl) (by kernel_rfl) (fun _ _ _ h => h) (by kernel_rfl) (fun L u hd h => h (25, (fun w' => w'.cell? ⟨b, 0, none⟩ = some (.slice (some ⟨g, 0, none⟩) q.length c) ∧ w'.cell? ⟨g, i * 3, none⟩ = some (.int .u32 x0) ∧ w'.cell? ⟨g, i * 3 + 1, none⟩ = some (.int .u8 x1) ∧ w'.cell? ⟨g, i * 3 + 2, none⟩ = some (.int .u32 x2) ∧ w'.cell? ⟨g, j * 3, none⟩ = some (.int .u32 y0) ∧ w'.cell? ⟨g, j * 3 + 1, none⟩ = some (.int .u8 y1) ∧ w'.cell? ⟨g, j * 3 + 2, none⟩ = some (.int .u32 y2))) (by simp) (hd 25 (by simp))) (by kernel_rfl) (by kernel_rfl) (Or.inl ⟨by rfl, ?_⟩) (HUN.out _ _ HS0.out) (fun HU => ?_)
  rotate_left
  · intro u hSw
    try dsimp only at hSw
    obtain ⟨s0, s1, s2, s3, s4, s5, s6⟩ := hSw
    go_simp
    try (with_reducible rfl)
  clear HU
  try simp only [Act.put, List.getElem_toArray, List.getElem_cons_succ, List.getElem_cons_zero, List.setIfInBounds_toArray, List.set_cons_zero, List.set_cons_succ]
  refine Orders.take (fun _ => True) [] (i := 9) (v := ?_) rfl (by kernel_rfl) (by kernel_rfl) (by kernel_rfl) (fun _ _ _ h => h) (by kernel_rfl) (fun _ _ _ _ => trivial) (by kernel_rfl) (by kernel_rfl) (Or.inl ⟨by rfl, ?_⟩) (HUN.out _ _ HS0.out) (fun HU => ?_)
  rotate_left
  · intro u hSw
    try dsimp only at hSw
    go_simp
    try (with_reducible rfl)
  clear HU
  try simp only [Act.put, List.getElem_toArray, List.getElem_cons_succ, List.getElem_cons_zero, List.setIfInBounds_toArray, List.set_cons_zero, List.set_cons_succ]
  refine Orders.take (fun _ => True) [] (i := 10) (v := ?_) rfl (by kernel_rfl) (by kernel_rfl) (by kernel_rfl) (fun _ _ _ h => h) (by kernel_rfl) (fun _ _ _ _ => trivial) (by kernel_rfl) (by kernel_rfl) (Or.inl ⟨by rfl, ?_⟩) (HUN.out _ _ HS0.out) (fun HU => ?_)
  rotate_left
  · intro u hSw
    try dsimp only at hSw
    go_simp
    try (with_reducible rfl)
  clear HU
  try simp only [Act.put, List.getElem_toArray, List.getElem_cons_succ, List.getElem_cons_zero, List.setIfInBounds_toArray, List.set_cons_zero, List.set_cons_succ]
  refine Orders.take (fun _ => True) [] (i := 11) (v := ?_) rfl (by kernel_rfl) (by kernel_rfl) (by kernel_rfl) (fun _ _ _ h => h) (by kernel_rfl) (fun _ _ _ _ => trivial) (by kernel_rfl) (by kernel_rfl) (Or.inl ⟨by rfl, ?_⟩) (HUN.out _ _ HS0.out) (fun HU => ?_)
  rotate_left
  · intro u hSw
    try dsimp only at hSw
    go_simp
    try (with_reducible rfl)
  clear HU
  try simp only [Act.put, List.getElem_toArray, List.getElem_cons_succ, List.getElem_cons_zero, List.setIfInBounds_toArray, List.set_cons_zero, List.set_cons_succ]
  refine Orders.take (fun _ => True) [] (i := 12) (v := ?_) rfl (by kernel_rfl) (by kernel_rfl) (by kernel_rfl) (fun _ _ _ h => h) (by kernel_rfl) (fun _ _ _ _ => trivial) (by kernel_rfl) (by kernel_rfl) (Or.inl ⟨by rfl, ?_⟩) (HUN.out _ _ HS0.out) (fun HU => ?_)
  rotate_left
  · intro u hSw
    try dsimp only at hSw
    go_simp
    try (with_reducible rfl)
  clear HU
  try simp only [Act.put, List.getElem_toArray, List.getElem_cons_succ, List.getElem_cons_zero, List.setIfInBounds_toArray, List.set_cons_zero, List.set_cons_succ]
  refine Orders.take (fun w' => w'.cell? ⟨b, 0, none⟩ = some (.slice (some ⟨g, 0, none⟩) q.length c) ∧ w'.cell? ⟨g, i * 3, none⟩ = some (.int .u32 x0) ∧ w'.cell? ⟨g, i * 3 + 1, none⟩ = some (.int .u8 x1) ∧ w'.cell? ⟨g, i * 3 + 2, none⟩ = some (.int .u32 x2) ∧ w'.cell? ⟨g, j * 3, none⟩ = some (.int .u32 y0) ∧ w'.cell? ⟨g, j * 3 + 1, none⟩ = some (.int .u8 y1) ∧ w'.cell? ⟨g, j * 3 + 2, none⟩ = some (.int .u32 y2)) [25] (i := 13) (v := ?_) rfl (by kernel_rfl) (by kernel_rfl) (by kernel_rfl) (fun _ _ _ h => h) (by kernel_rfl) (fun L u hd h => h (25, (fun w' => w'.cell? ⟨b, 0, none⟩ = some (.slice (some ⟨g, 0, none⟩) q.length c) ∧ w'.cell? ⟨g, i * 3, none⟩ = some (.int .u32 x0) ∧ w'.cell? ⟨g, i * 3 + 1, none⟩ = some (.int .u8 x1) ∧ w'.cell? ⟨g, i * 3 + 2, none⟩ = some (.int .u32 x2) ∧ w'.cell? ⟨g, j * 3, none⟩ = some (.int .u32 y0) ∧ w'.cell? ⟨g, j * 3 + 1, none⟩ = some (.int .u8 y1) ∧ w'.cell? ⟨g, j * 3 + 2, none⟩ = some (.int .u32 y2))) (by simp) (hd 25 (by simp))) (by kernel_rfl) (by kernel_rfl) (Or.inl ⟨by rfl, ?_⟩) (HUN.out _ _ HS0.out) (fun HU => ?_)
  rotate_left
  · intro u hSw
    try dsimp only at hSw
    obtain ⟨s0, s1, s2, s3, s4, s5, s6⟩ := hSw
    go_simp
    try (with_reducible rfl)
  clear HU
  try simp only [Act.put, List.getElem_toArray, List.getElem_cons_succ, List.getElem_cons_zero, List.setIfInBounds_toArray, List.set_cons_zero, List.set_cons_succ]
  refine Orders.take (fun _ => True) [] (i := 14) (v := ?_) rfl (by kernel_rfl) (by kernel_rfl) (by kernel_rfl) (fun _ _ _ h => h) (by kernel_rfl) (fun _ _ _ _ => trivial) (by kernel_rfl) (by kernel_rfl) (Or.inl ⟨by rfl, ?_⟩) (HUN.out _ _ HS0.out) (fun HU => ?_)
  rotate_left
  · intro u hSw
    try dsimp only at hSw
    go_simp
    try (with_reducible rfl)
  clear HU
  try simp only [Act.put, List.getElem_toArray, List.getElem_cons_succ, List.getElem_cons_zero, List.setIfInBounds_toArray, List.set_cons_zero, List.set_cons_succ]
  refine Orders.take (fun _ => True) [] (i := 15) (v := ?_) rfl (by kernel_rfl) (by kernel_rfl) (by kernel_rfl) (fun _ _ _ h => h) (by kernel_rfl) (fun _ _ _ _ => trivial) (by kernel_rfl) (by kernel_rfl) (Or.inl ⟨by rfl, ?_⟩) (HUN.out _ _ HS0.out) (fun HU => ?_)
  rotate_left
  · intro u hSw
    try dsimp only at hSw
    go_simp
    try (with_reducible rfl)
  clear HU
  try simp only [Act.put, List.getElem_toArray, List.getElem_cons_succ, List.getElem_cons_zero, List.setIfInBounds_toArray, List.set_cons_zero, List.set_cons_succ]
  refine Orders.take (fun w' => w'.cell? ⟨b, 0, none⟩ = some (.slice (some ⟨g, 0, none⟩) q.length c) ∧ w'.cell? ⟨g, i * 3, none⟩ = some (.int .u32 x0) ∧ w'.cell? ⟨g, i * 3 + 1, none⟩ = some (.int .u8 x1) ∧ w'.cell? ⟨g, i * 3 + 2, none⟩ = some (.int .u32 x2) ∧ w'.cell? ⟨g, j * 3, none⟩ = some (.int .u32 y0) ∧ w'.cell? ⟨g, j * 3 + 1, none⟩ = some (.int .u8 y1) ∧ w'.cell? ⟨g, j * 3 + 2, none⟩ = some (.int .u32 y2)) [25] (i := 16) (v := ?_) rfl (by kernel_rfl) (by kernel_rfl) (by kernel_rfl) (fun _ _ _ h => h) (by kernel_rfl) (fun L u hd h => h (25, (fun w' => w'.cell? ⟨b, 0, none⟩ = some (.slice (some ⟨g, 0, none⟩) q.length c) ∧ w'.cell? ⟨g, i * 3, none⟩ = some (.int .u32 x0) ∧ w'.cell? ⟨g, i * 3 + 1, none⟩ = some (.int .u8 x1) ∧ w'.cell? ⟨g, i * 3 + 2, none⟩ = some (.int .u32 x2) ∧ w'.cell? ⟨g, j * 3, none⟩ = some (.int .u32 y0) ∧ w'.cell? ⟨g, j * 3 + 1, none⟩ = some (.int .u8 y1) ∧ w'.cell? ⟨g, j * 3 + 2, none⟩ = some (.int .u32 y2))) (by simp) (hd 25 (by simp))) (by kernel_rfl) (by kernel_rfl) (Or.inl ⟨by rfl, ?_⟩) (HUN.out _ _ HS0.out) (fun HU => ?_)
  rotate_left
  · intro u hSw
    try dsimp only at hSw
    obtain ⟨s0, s1, s2, s3, s4, s5, s6⟩ := hSw
    go_simp
    try (with_reducible rfl)
  clear HU
  try simp only [Act.put, List.getElem_toArray, List.getElem_cons_succ, List.getElem_cons_zero, List.setIfInBounds_toArray, List.set_cons_zero, List.set_cons_succ]
  refine Orders.take (fun _ => True) [] (i := 17) (v := ?_) rfl (by kernel_rfl) (by kernel_rfl) (by kernel_rfl) (fun _ _ _ h => h) (by kernel_rfl) (fun _ _ _ _ => trivial) (by kernel_rfl) (by kernel_rfl) (Or.inl ⟨by rfl, ?_⟩) (HUN.out _ _ HS0.out) (fun HU => ?_)
  rotate_left
  · intro u hSw
    try dsimp only at hSw
    go_simp
    try (with_reducible rfl)
  clear HU
  try simp only [Act.put, List.getElem_toArray, List.getElem_cons_succ, List.getElem_cons_zero, List.setIfInBounds_toArray, List.set_cons_zero, List.set_cons_succ]
  refine Orders.take (fun _ => True) [] (i := 18) (v := ?_) rfl (by kernel_rfl) (by kernel_rfl) (by kernel_rfl) (fun _ _ _ h => h) (by kernel_rfl) (fun _ _ _ _ => trivial) (by kernel_rfl) (by kernel_rfl) (Or.inl ⟨by rfl, ?_⟩) (HUN.out _ _ HS0.out) (fun HU => ?_)
  rotate_left
  · intro u hSw
    try dsimp only at hSw
    go_simp
    try (with_reducible rfl)
  clear HU
  try simp only [Act.put, List.getElem_toArray, List.getElem_cons_succ, List.getElem_cons_zero, List.setIfInBounds_toArray, List.set_cons_zero, List.set_cons_succ]
  refine Orders.take (fun _ => True) [] (i := 19) (v := ?_) rfl (by kernel_rfl) (by kernel_rfl) (by kernel_rfl) (fun _ _ _ h => h) (by kernel_rfl) (fun _ _ _ _ => trivial) (by kernel_rfl) (by kernel_rfl) (Or.inl ⟨by rfl, ?_⟩) (HUN.out _ _ HS0.out) (fun HU => ?_)
  rotate_left
  · intro u hSw
    try dsimp only at hSw
    go_simp
    try (with_reducible rfl)
  clear HU
  try simp only [Act.put, List.getElem_toArray, List.getElem_cons_succ, List.getElem_cons_zero, List.setIfInBounds_toArray, List.set_cons_zero, List.set_cons_succ]
  refine Orders.take (fun w' => w'.cell? ⟨b, 0, none⟩ = some (.slice (some ⟨g, 0, none⟩) q.length c) ∧ w'.cell? ⟨g, i * 3, none⟩ = some (.int .u32 x0) ∧ w'.cell? ⟨g, i * 3 + 1, none⟩ = some (.int .u8 x1) ∧ w'.cell? ⟨g, i * 3 + 2, none⟩ = some (.int .u32 x2) ∧ w'.cell? ⟨g, j * 3, none⟩ = some (.int .u32 y0) ∧ w'.cell? ⟨g, j * 3 + 1, none⟩ = some (.int .u8 y1) ∧ w'.cell? ⟨g, j * 3 + 2, none⟩ = some (.int .u32 y2)) [25] (i := 20) (v := ?_) rfl (by kernel_rfl) (by kernel_rfl) (by kernel_rfl) (fun _ _ _ h => h) (by kernel_rfl) (fun L u hd h => h (25, (fun w' => w'.cell? ⟨b, 0, none⟩ = some (.slice (some ⟨g, 0, none⟩) q.length c) ∧ w'.cell? ⟨g, i * 3, none⟩ = some (.int .u32 x0) ∧ w'.cell? ⟨g, i * 3 + 1, none⟩ = some (.int .u8 x1) ∧ w'.cell? ⟨g, i * 3 + 2, none⟩ = some (.int .u32 x2) ∧ w'.cell? ⟨g, j * 3, none⟩ = some (.int .u32 y0) ∧ w'.cell? ⟨g, j * 3 + 1, none⟩ = some (.int .u8 y1) ∧ w'.cell? ⟨g, j * 3 + 2, none⟩ = some (.int .u32 y2))) (by simp) (hd 25 (by simp))) (by kernel_rfl) (by kernel_rfl) (Or.inl ⟨by rfl, ?_⟩) (HUN.out _ _ HS0.out) (fun HU => ?_)
  rotate_left
  · intro u hSw
    try dsimp only at hSw
    obtain ⟨s0, s1, s2, s3, s4, s5, s6⟩ := hSw
    go_simp
    try (with_reducible rfl)
  clear HU
  try simp only [Act.put, List.getElem_toArray, List.getElem_cons_succ, List.getElem_cons_zero, List.setIfInBounds_toArray, List.set_cons_zero, List.set_cons_succ]
  refine Orders.take (fun _ => True) [] (i := 21) (v := ?_) rfl (by kernel_rfl) (by kernel_rfl) (by kernel_rfl) (fun _ _ _ h => h) (by kernel_rfl) (fun _ _ _ _ => trivial) (by kernel_rfl) (by kernel_rfl) (Or.inl ⟨by rfl, ?_⟩) (HUN.out _ _ HS0.out) (fun HU => ?_)
  rotate_left
  · intro u hSw
    try dsimp only at hSw
    go_simp
    try (with_reducible rfl)
  clear HU
  try simp only [Act.put, List.getElem_toArray, List.getElem_cons_succ, List.getElem_cons_zero, List.setIfInBounds_toArray, List.set_cons_zero, List.set_cons_succ]
  refine Orders.take (fun _ => True) [] (i := 22) (v := ?_) rfl (by kernel_rfl) (by kernel_rfl) (by kernel_rfl) (fun _ _ _ h => h) (by kernel_rfl) (fun _ _ _ _ => trivial) (by kernel_rfl) (by kernel_rfl) (Or.inl ⟨by rfl, ?_⟩) (HUN.out _ _ HS0.out) (fun HU => ?_)
  rotate_left
  · intro u hSw
    try dsimp only at hSw
    go_simp
    try (with_reducible rfl)
  clear HU
  try simp only [Act.put, List.getElem_toArray, List.getElem_cons_succ, List.getElem_cons_zero, List.setIfInBounds_toArray, List.set_cons_zero, List.set_cons_succ]
  refine Orders.take (fun w' => w'.cell? ⟨b, 0, none⟩ = some (.slice (some ⟨g, 0, none⟩) q.length c) ∧ w'.cell? ⟨g, i * 3, none⟩ = some (.int .u32 x0) ∧ w'.cell? ⟨g, i * 3 + 1, none⟩ = some (.int .u8 x1) ∧ w'.cell? ⟨g, i * 3 + 2, none⟩ = some (.int .u32 x2) ∧ w'.cell? ⟨g, j * 3, none⟩ = some (.int .u32 y0) ∧ w'.cell? ⟨g, j * 3 + 1, none⟩ = some (.int .u8 y1) ∧ w'.cell? ⟨g, j * 3 + 2, none⟩ = some (.int .u32 y2)) [25] (i := 23) (v := ?_) rfl (by kernel_rfl) (by kernel_rfl) (by kernel_rfl) (fun _ _ _ h => h) (by kernel_rfl) (fun L u hd h => h (25, (fun w' => w'.cell? ⟨b, 0, none⟩ = some (.slice (some ⟨g, 0, none⟩) q.length c) ∧ w'.cell? ⟨g, i * 3, none⟩ = some (.int .u32 x0) ∧ w'.cell? ⟨g, i * 3 + 1, none⟩ = some (.int .u8 x1) ∧ w'.cell? ⟨g, i * 3 + 2, none⟩ = some (.int .u32 x2) ∧ w'.cell? ⟨g, j * 3, none⟩ = some (.int .u32 y0) ∧ w'.cell? ⟨g, j * 3 + 1, none⟩ = some (.int .u8 y1) ∧ w'.cell? ⟨g, j * 3 + 2, none⟩ = some (.int .u32 y2))) (by simp) (hd 25 (by simp))) (by kernel_rfl) (by kernel_rfl) (Or.inl ⟨by rfl, ?_⟩) (HUN.out _ _ HS0.out) (fun HU => ?_)
  rotate_left
  · intro u hSw
    try dsimp only at hSw
    obtain ⟨s0, s1, s2, s3, s4, s5, s6⟩ := hSw
    go_simp
    try (with_reducible rfl)
  clear HU
  try simp only [Act.put, List.getElem_toArray, List.getElem_cons_succ, List.getElem_cons_zero, List.setIfInBounds_toArray, List.set_cons_zero, List.set_cons_succ]
  refine Orders.take (fun _ => True) [] (i := 24) (v := ?_) rfl (by kernel_rfl) (by kernel_rfl) (by kernel_rfl) (fun _ _ _ h => h) (by kernel_rfl) (fun _ _ _ _ => trivial) (by kernel_rfl) (by kernel_rfl) (Or.inl ⟨by rfl, ?_⟩) (HUN.out _ _ HS0.out) (fun HU => ?_)
  rotate_left
  · intro u hSw
    try dsimp only at hSw
    go_simp
    try (with_reducible rfl)
  clear HU
  try simp only [Act.put, List.getElem_toArray, List.getElem_cons_succ, List.getElem_cons_zero, List.setIfInBounds_toArray, List.set_cons_zero, List.set_cons_succ]
  refine Orders.one (i := 25) (by kernel_rfl) rfl (fun K hK => ?_)
  obtain ⟨a0, a1, a2, p0, p1, p2⟩ := HST0.out
  go_simp
  refine hK.out _ _ ?_ (fun HU => ?_)
  · intro c hc hl
    simp only [List.mem_cons, List.not_mem_nil, or_false] at hc
    subst hc
    exact absurd hl (fun h => Bool.noConfusion (h.symm.trans (by kernel_rfl : _ = true)))
  clear hK K a0 a1 a2 p0 p1 p2
  try simp only [Act.put, List.getElem_toArray, List.getElem_cons_succ, List.getElem_cons_zero, List.setIfInBounds_toArray, List.set_cons_zero, List.set_cons_succ]
  refine Orders.take (fun _ => True) [] (i := 26) (v := ?_) rfl (by kernel_rfl) (by kernel_rfl) (by kernel_rfl) (fun _ _ _ h => h) (by kernel_rfl) (fun _ _ _ _ => trivial) (by kernel_rfl) (by kernel_rfl) (Or.inl ⟨by rfl, ?_⟩) HU (fun HU => ?_)
  rotate_left
  · intro u hSw
    try dsimp only at hSw
    go_simp
    try (with_reducible rfl)
  clear HU
  try simp only [Act.put, List.getElem_toArray, List.getElem_cons_succ, List.getElem_cons_zero, List.setIfInBounds_toArray, List.set_cons_zero, List.set_cons_succ]
  refine Orders.one (i := 27) (by kernel_rfl) rfl (fun K hK => ?_)
  obtain ⟨w1, hw1⟩ : ∃ w1, w1 = ((wd.setCell ⟨g, i * 3, none⟩ (.int .u32 y0)).setCell ⟨g, i * 3 + 1, none⟩ (.int .u8 y1)).setCell ⟨g, i * 3 + 2, none⟩ (.int .u32 y2) := ⟨_, rfl⟩
  rw [← hw1]
  obtain ⟨u0, u1, u2, a0, a1, a2, p3, p4, p5⟩ := HST1.out w1 hw1
  have HW1 := hid hw1
  clear hw1
  go_simp
  refine hK.out _ _ ?_ (fun HU => ?_)
  · intro c hc hl
    simp only [List.mem_cons, List.not_mem_nil, or_false] at hc
    subst hc
    exact absurd hl (fun h => Bool.noConfusion (h.symm.trans (by kernel_rfl : _ = true)))
  clear hK K HU a0 a1 a2 p3 p4 p5
  try simp only [Act.put, List.getElem_toArray, List.getElem_cons_succ, List.getElem_cons_zero, List.setIfInBounds_toArray, List.set_cons_zero, List.set_cons_succ]
  refine Orders.ends (by kernel_rfl) ?_ _
  obtain ⟨w2, hw2⟩ : ∃ w2, w2 = ((w1.setCell ⟨g, j * 3, none⟩ (.int .u32 x0)).setCell ⟨g, j * 3 + 1, none⟩ (.int .u8 x1)).setCell ⟨g, j * 3 + 2, none⟩ (.int .u32 x2) := ⟨_, rfl⟩
  rw [← hw2]
  have HQ2 := hid (show w2.ownsRow lo 32 3 (.slice (some ⟨g, 0, none⟩) q.length c) q.length (cels (swp q i j)) by
    rw [hw2]
    have h1 := stored3 (HOW1.out w1 HW1.out) (k := j) (by rw [List.length_set]; exact hj) (x0, x1, x2)
    have e : swp q i j = (q.set i (y0, y1, y2)).set j (x0, x1, x2) := by unfold swp; rw [← HX.out, ← HY.out]
    rw [e]; exact h1)
  have HK2 := hid (show Keeps (Hb b m (.slice (some ⟨g, 0, none⟩) q.length c)) w w2 by
    rw [hw2]
    refine set3_keeps ?_ g (j * 3) _ _ _ (.inr (.inr rfl))
    rw [HW1.out]
    refine set3_keeps ?_ g (i * 3) _ _ _ (.inr (.inr rfl))
    rw [HWD.out]
    exact ⟨rfl, rfl, rfl, Nat.le_refl _, fun _ _ _ => rfl⟩)
  have ho2 : ∀ p, p ≠ g → w2.heap[p]? = w.heap[p]? := fun p hp => by
    rw [hw2]
    refine (set3_other _ g (j * 3) p _ _ _ hp).trans ?_
    rw [HW1.out]
    refine (set3_other _ g (i * 3) p _ _ _ hp).trans ?_
    rw [HWD.out]; rfl
  have HBK2 := hid ((ho2 b (Ne.symm hgb)).trans H.out.blk)
  have HMP2 := hid (H.out.mp.block (ho2 m (Ne.symm hgm)))
  have hi2 : i < (swp q i j).length := by rw [swp_len]; exact hi
  have hj2 : j < (swp q i j).length := by rw [swp_len]; exact hj
  have hz1 : (it (swp q i j) i).1 = y0 := by
    rw [it_swp hi hj]
    by_cases e : i = j
    · subst e; rw [if_pos rfl, ← HY.out]
    · rw [if_neg e, if_pos rfl, ← HY.out]
  have hz2 : (it (swp q i j) j).1 = x0 := by rw [it_swp hi hj, if_pos rfl, ← HX.out]
  have HZ1 := hid hz1
  have HZ2 := hid hz2
  have hky : kw y0 := by have := HKJ.out; rw [← HY.out] at this; exact this
  have hkx : kw x0 := by have := HKI.out; rw [← HX.out] at this; exact this
  have hpi : plc q x0 = some i := by have := HPI.out; rw [← HX.out] at this; exact this
  have hpj : plc q y0 = some j := by have := HPJ.out; rw [← HY.out] at this; exact this
  obtain ⟨w3, hrun1, hmp3, ht3⟩ := (HMP2.out.block (w' := w2.drew) rfl).put (by omega) hky (k := i) (by omega)
  rw [if_pos (by rw [hpj]; rfl)] at hmp3
  have ht3' := turned_heap ht3
  obtain ⟨w4, hrun2, hmp4, ht4⟩ := (hmp3.block (w' := w3.drew) rfl).put (by omega) hkx (k := j) (by omega)
  rw [if_pos (by unfold upd; split <;> first | rfl | (rw [hpi]; rfl))] at hmp4
  have ht4' := turned_heap ht4
  have hb3 : w3.drew.heap[b]? = some (.cells #[.slice (some ⟨g, 0, none⟩) q.length c, .map (some m)] 53 (0, 0)) := (ht3'.2 b (Ne.symm hmb)).trans HBK2.out
  have hq3 : w3.ownsRow lo 32 3 (.slice (some ⟨g, 0, none⟩) q.length c) q.length (cels (swp q i j)) := owns_by HQ2.out fun k hk => ht3'.2 k (by
    have : g = k := by simpa [Value.ownBlock] using hk
    rw [← this]; exact hgm)
  have HRW := hid (show RwAt w4 lo b (.slice (some ⟨g, 0, none⟩) q.length c) m (swp q i j) from by
    refine ⟨(ht4'.2 b (Ne.symm hmb)).trans hb3, ?_, ?_, H.out.lob, H.out.lom, fun x hx => H.out.ok x ((swp_perm hi hj).mem_iff.1 hx), H.out.ids.perm (swp_perm hi hj).symm, by rw [swp_len]; exact hq⟩
    · rw [swp_len]
      exact owns_by hq3 fun k hk => ht4'.2 k (by
        have : g = k := by simpa [Value.ownBlock] using hk
        rw [← this]; exact hgm)
    · rw [swp_len]
      refine hmp4.ext (Nat.le_refl _) fun z hz => ?_
      rw [plc_swp H.out.ids hi hj, ← HX.out, ← HY.out])
  have hkd : ∀ {x : World}, Keeps (Hb b m (.slice (some ⟨g, 0, none⟩) q.length c)) w x → Keeps (Hb b m (.slice (some ⟨g, 0, none⟩) q.length c)) w x.drew := fun h => ⟨h.os, h.tape, h.output, h.size, h.block⟩
  have HK4 := hid (turned_keeps (hkd (turned_keeps (hkd HK2.out) ht3 (.inr (.inl rfl)))) ht4 (.inr (.inl rfl)))
  clear hkd
  obtain ⟨wd1, hwd1⟩ : ∃ y, y = w2.drew := ⟨_, rfl⟩
  obtain ⟨wd2, hwd2⟩ : ∃ y, y = w3.drew := ⟨_, rfl⟩
  have HS1 := hid (show (fun w' : World => w'.cell? ⟨b, 0, none⟩ = some (.slice (some ⟨g, 0, none⟩) q.length c) ∧ w'.cell? ⟨b, 1, none⟩ = some (.map (some m)) ∧ w'.cell? ⟨g, i * 3, none⟩ = some (.int .u32 y0)) wd1 from by
    have hA := own_item HQ2.out hi2
    rw [hz1] at hA
    rw [hwd1]
    exact ⟨(cell_of_row _ _ _ _ _ _ HBK2.out).trans rfl, (cell_of_row _ _ _ _ _ _ HBK2.out).trans rfl, hA.1⟩)
  have HS2 := hid (show (fun w' : World => w'.cell? ⟨b, 0, none⟩ = some (.slice (some ⟨g, 0, none⟩) q.length c) ∧ w'.cell? ⟨b, 1, none⟩ = some (.map (some m)) ∧ w'.cell? ⟨g, j * 3, none⟩ = some (.int .u32 x0)) wd2 from by
    have hA := own_item hq3 hj2
    rw [hz2] at hA
    rw [hwd2]
    exact ⟨(cell_of_row _ _ _ _ _ _ hb3).trans rfl, (cell_of_row _ _ _ _ _ _ hb3).trans rfl, hA.1⟩)
  rw [← hwd1] at hrun1
  rw [← hwd2] at hrun2
  have HR1 := hid hrun1
  have HR2 := hid hrun2
  clear hw2 hrun1 hrun2 hmp3 ht3 ht3' hmp4 ht4 ht4' hb3 hq3 hz1 hz2 hky hkx hpi hpj ho2
  go_wp2_with fail
  have HUN1 := hid (show ∀ (W : World) (L : Array Bool), (fun w' => w'.cell? ⟨b, 0, none⟩ = some (.slice (some ⟨g, 0, none⟩) q.length c) ∧ w'.cell? ⟨b, 1, none⟩ = some (.map (some m)) ∧ w'.cell? ⟨g, i * 3, none⟩ = some (.int .u32 y0)) W → UntilAll [(13, (fun w' => w'.cell? ⟨b, 0, none⟩ = some (.slice (some ⟨g, 0, none⟩) q.length c) ∧ w'.cell? ⟨b, 1, none⟩ = some (.map (some m)) ∧ w'.cell? ⟨g, i * 3, none⟩ = some (.int .u32 y0)))] L W from by
    intro W L hW c hc _
    simp only [List.mem_cons, List.not_mem_nil, or_false] at hc
    subst hc
    exact hW)
  refine Orders.begins (C := [(13, (fun w' => w'.cell? ⟨b, 0, none⟩ = some (.slice (some ⟨g, 0, none⟩) q.length c) ∧ w'.cell? ⟨b, 1, none⟩ = some (.map (some m)) ∧ w'.cell? ⟨g, i * 3, none⟩ = some (.int .u32 y0)))]) (by kernel_rfl) ?_
  rw [← hwd1]
  clear hwd1
  refine Orders.take (fun _ => True) [] (i := 0) (v := ?_) rfl (by kernel_rfl) (by kernel_rfl) (by kernel_rfl) (fun _ _ _ h => h) (by kernel_rfl) (fun _ _ _ _ => trivial) (by kernel_rfl) (by kernel_rfl) (Or.inl ⟨by rfl, ?_⟩) (HUN1.out _ _ HS1.out) (fun HU => ?_)
  rotate_left
  · intro u hSw
    try dsimp only at hSw
    go_simp
    try (with_reducible rfl)
  clear HU
  try simp only [Act.put, List.getElem_toArray, List.getElem_cons_succ, List.getElem_cons_zero, List.setIfInBounds_toArray, List.set_cons_zero, List.set_cons_succ]
  refine Orders.take (fun _ => True) [] (i := 1) (v := ?_) rfl (by kernel_rfl) (by kernel_rfl) (by kernel_rfl) (fun _ _ _ h => h) (by kernel_rfl) (fun _ _ _ _ => trivial) (by kernel_rfl) (by kernel_rfl) (Or.inl ⟨by rfl, ?_⟩) (HUN1.out _ _ HS1.out) (fun HU => ?_)
  rotate_left
  · intro u hSw
    try dsimp only at hSw
    go_simp
    try (with_reducible rfl)
  clear HU
  try simp only [Act.put, List.getElem_toArray, List.getElem_cons_succ, List.getElem_cons_zero, List.setIfInBounds_toArray, List.set_cons_zero, List.set_cons_succ]
  refine Orders.take (fun _ => True) [] (i := 2) (v := ?_) rfl (by kernel_rfl) (by kernel_rfl) (by kernel_rfl) (fun _ _ _ h => h) (by kernel_rfl) (fun _ _ _ _ => trivial) (by kernel_rfl) (by kernel_rfl) (Or.inl ⟨by rfl, ?_⟩) (HUN1.out _ _ HS1.out) (fun HU => ?_)
  rotate_left
  · intro u hSw
    try dsimp only at hSw
    go_simp
    try (with_reducible rfl)
  clear HU
  try simp only [Act.put, List.getElem_toArray, List.getElem_cons_succ, List.getElem_cons_zero, List.setIfInBounds_toArray, List.set_cons_zero, List.set_cons_succ]
  refine Orders.take (fun w' => w'.cell? ⟨b, 0, none⟩ = some (.slice (some ⟨g, 0, none⟩) q.length c) ∧ w'.cell? ⟨b, 1, none⟩ = some (.map (some m)) ∧ w'.cell? ⟨g, i * 3, none⟩ = some (.int .u32 y0)) [13] (i := 3) (v := ?_) rfl (by kernel_rfl) (by kernel_rfl) (by kernel_rfl) (fun _ _ _ h => h) (by kernel_rfl) (fun L u hd h => h (13, (fun w' => w'.cell? ⟨b, 0, none⟩ = some (.slice (some ⟨g, 0, none⟩) q.length c) ∧ w'.cell? ⟨b, 1, none⟩ = some (.map (some m)) ∧ w'.cell? ⟨g, i * 3, none⟩ = some (.int .u32 y0))) (by simp) (hd 13 (by simp))) (by kernel_rfl) (by kernel_rfl) (Or.inl ⟨by rfl, ?_⟩) (HUN1.out _ _ HS1.out) (fun HU => ?_)
  rotate_left
  · intro u hSw
    try dsimp only at hSw
    obtain ⟨s0, s1, s2⟩ := hSw
    go_simp
    try (with_reducible rfl)
  clear HU
  try simp only [Act.put, List.getElem_toArray, List.getElem_cons_succ, List.getElem_cons_zero, List.setIfInBounds_toArray, List.set_cons_zero, List.set_cons_succ]
  refine Orders.take (fun _ => True) [] (i := 4) (v := ?_) rfl (by kernel_rfl) (by kernel_rfl) (by kernel_rfl) (fun _ _ _ h => h) (by kernel_rfl) (fun _ _ _ _ => trivial) (by kernel_rfl) (by kernel_rfl) (Or.inl ⟨by rfl, ?_⟩) (HUN1.out _ _ HS1.out) (fun HU => ?_)
  rotate_left
  · intro u hSw
    try dsimp only at hSw
    go_simp
    try (with_reducible rfl)
  clear HU
  try simp only [Act.put, List.getElem_toArray, List.getElem_cons_succ, List.getElem_cons_zero, List.setIfInBounds_toArray, List.set_cons_zero, List.set_cons_succ]
  refine Orders.take (fun _ => True) [] (i := 5) (v := ?_) rfl (by kernel_rfl) (by kernel_rfl) (by kernel_rfl) (fun _ _ _ h => h) (by kernel_rfl) (fun _ _ _ _ => trivial) (by kernel_rfl) (by kernel_rfl) (Or.inl ⟨by rfl, ?_⟩) (HUN1.out _ _ HS1.out) (fun HU => ?_)
  rotate_left
  · intro u hSw
    try dsimp only at hSw
    go_simp
    try (with_reducible rfl)
  clear HU
  try simp only [Act.put, List.getElem_toArray, List.getElem_cons_succ, List.getElem_cons_zero, List.setIfInBounds_toArray, List.set_cons_zero, List.set_cons_succ]
  refine Orders.take (fun _ => True) [] (i := 6) (v := ?_) rfl (by kernel_rfl) (by kernel_rfl) (by kernel_rfl) (fun _ _ _ h => h) (by kernel_rfl) (fun _ _ _ _ => trivial) (by kernel_rfl) (by kernel_rfl) (Or.inl ⟨by rfl, ?_⟩) (HUN1.out _ _ HS1.out) (fun HU => ?_)
  rotate_left
  · intro u hSw
    try dsimp only at hSw
    go_simp
    try (with_reducible rfl)
  clear HU
  try simp only [Act.put, List.getElem_toArray, List.getElem_cons_succ, List.getElem_cons_zero, List.setIfInBounds_toArray, List.set_cons_zero, List.set_cons_succ]
  refine Orders.take (fun w' => w'.cell? ⟨b, 0, none⟩ = some (.slice (some ⟨g, 0, none⟩) q.length c) ∧ w'.cell? ⟨b, 1, none⟩ = some (.map (some m)) ∧ w'.cell? ⟨g, i * 3, none⟩ = some (.int .u32 y0)) [13] (i := 7) (v := ?_) rfl (by kernel_rfl) (by kernel_rfl) (by kernel_rfl) (fun _ _ _ h => h) (by kernel_rfl) (fun L u hd h => h (13, (fun w' => w'.cell? ⟨b, 0, none⟩ = some (.slice (some ⟨g, 0, none⟩) q.length c) ∧ w'.cell? ⟨b, 1, none⟩ = some (.map (some m)) ∧ w'.cell? ⟨g, i * 3, none⟩ = some (.int .u32 y0))) (by simp) (hd 13 (by simp))) (by kernel_rfl) (by kernel_rfl) (Or.inl ⟨by rfl, ?_⟩) (HUN1.out _ _ HS1.out) (fun HU => ?_)
  rotate_left
  · intro u hSw
    try dsimp only at hSw
    obtain ⟨s0, s1, s2⟩ := hSw
    go_simp
    try (with_reducible rfl)
  clear HU
  try simp only [Act.put, List.getElem_toArray, List.getElem_cons_succ, List.getElem_cons_zero, List.setIfInBounds_toArray, List.set_cons_zero, List.set_cons_succ]
  refine Orders.take (fun _ => True) [] (i := 8) (v := ?_) rfl (by kernel_rfl) (by kernel_rfl) (by kernel_rfl) (fun _ _ _ h => h) (by kernel_rfl) (fun _ _ _ _ => trivial) (by kernel_rfl) (by kernel_rfl) (Or.inl ⟨by rfl, ?_⟩) (HUN1.out _ _ HS1.out) (fun HU => ?_)
  rotate_left
  · intro u hSw
    try dsimp only at hSw
    go_simp
    try (with_reducible rfl)
  clear HU
  try simp only [Act.put, List.getElem_toArray, List.getElem_cons_succ, List.getElem_cons_zero, List.setIfInBounds_toArray, List.set_cons_zero, List.set_cons_succ]
  refine Orders.take (fun _ => True) [] (i := 9) (v := ?_) rfl (by kernel_rfl) (by kernel_rfl) (by kernel_rfl) (fun _ _ _ h => h) (by kernel_rfl) (fun _ _ _ _ => trivial) (by kernel_rfl) (by kernel_rfl) (Or.inl ⟨by rfl, ?_⟩) (HUN1.out _ _ HS1.out) (fun HU => ?_)
  rotate_left
  · intro u hSw
    try dsimp only at hSw
    go_simp
    try (with_reducible rfl)
  clear HU
  try simp only [Act.put, List.getElem_toArray, List.getElem_cons_succ, List.getElem_cons_zero, List.setIfInBounds_toArray, List.set_cons_zero, List.set_cons_succ]
  refine Orders.take (fun _ => True) [] (i := 10) (v := ?_) rfl (by kernel_rfl) (by kernel_rfl) (by kernel_rfl) (fun _ _ _ h => h) (by kernel_rfl) (fun _ _ _ _ => trivial) (by kernel_rfl) (by kernel_rfl) (Or.inl ⟨by rfl, ?_⟩) (HUN1.out _ _ HS1.out) (fun HU => ?_)
  rotate_left
  · intro u hSw
    try dsimp only at hSw
    go_simp
    try (with_reducible rfl)
  clear HU
  try simp only [Act.put, List.getElem_toArray, List.getElem_cons_succ, List.getElem_cons_zero, List.setIfInBounds_toArray, List.set_cons_zero, List.set_cons_succ]
  refine Orders.take (fun w' => w'.cell? ⟨b, 0, none⟩ = some (.slice (some ⟨g, 0, none⟩) q.length c) ∧ w'.cell? ⟨b, 1, none⟩ = some (.map (some m)) ∧ w'.cell? ⟨g, i * 3, none⟩ = some (.int .u32 y0)) [13] (i := 11) (v := ?_) rfl (by kernel_rfl) (by kernel_rfl) (by kernel_rfl) (fun _ _ _ h => h) (by kernel_rfl) (fun L u hd h => h (13, (fun w' => w'.cell? ⟨b, 0, none⟩ = some (.slice (some ⟨g, 0, none⟩) q.length c) ∧ w'.cell? ⟨b, 1, none⟩ = some (.map (some m)) ∧ w'.cell? ⟨g, i * 3, none⟩ = some (.int .u32 y0))) (by simp) (hd 13 (by simp))) (by kernel_rfl) (by kernel_rfl) (Or.inl ⟨by rfl, ?_⟩) (HUN1.out _ _ HS1.out) (fun HU => ?_)
  rotate_left
  · intro u hSw
    try dsimp only at hSw
    obtain ⟨s0, s1, s2⟩ := hSw
    go_simp
    try (with_reducible rfl)
  clear HU
  try simp only [Act.put, List.getElem_toArray, List.getElem_cons_succ, List.getElem_cons_zero, List.setIfInBounds_toArray, List.set_cons_zero, List.set_cons_succ]
  refine Orders.take (fun _ => True) [] (i := 12) (v := ?_) rfl (by kernel_rfl) (by kernel_rfl) (by kernel_rfl) (fun _ _ _ h => h) (by kernel_rfl) (fun _ _ _ _ => trivial) (by kernel_rfl) (by kernel_rfl) (Or.inl ⟨by rfl, ?_⟩) (HUN1.out _ _ HS1.out) (fun HU => ?_)
  rotate_left
  · intro u hSw
    try dsimp only at hSw
    go_simp
    try (with_reducible rfl)
  clear HU
  try simp only [Act.put, List.getElem_toArray, List.getElem_cons_succ, List.getElem_cons_zero, List.setIfInBounds_toArray, List.set_cons_zero, List.set_cons_succ]
  refine Orders.one (i := 13) (by kernel_rfl) rfl (fun K hK => ?_)
  have hrun := HR1.out
  go_simp
  refine hK.out _ _ ?_ (fun HU => ?_)
  · intro c hc hl
    simp only [List.mem_cons, List.not_mem_nil, or_false] at hc
    subst hc
    exact absurd hl (fun h => Bool.noConfusion (h.symm.trans (by kernel_rfl : _ = true)))
  clear hK K HU hrun
  try simp only [Act.put, List.getElem_toArray, List.getElem_cons_succ, List.getElem_cons_zero, List.setIfInBounds_toArray, List.set_cons_zero, List.set_cons_succ]
  refine Orders.ends (by kernel_rfl) ?_ _
  go_wp2_with fail
  have HUN2 := hid (show ∀ (W : World) (L : Array Bool), (fun w' => w'.cell? ⟨b, 0, none⟩ = some (.slice (some ⟨g, 0, none⟩) q.length c) ∧ w'.cell? ⟨b, 1, none⟩ = some (.map (some m)) ∧ w'.cell? ⟨g, j * 3, none⟩ = some (.int .u32 x0)) W → UntilAll [(13, (fun w' => w'.cell? ⟨b, 0, none⟩ = some (.slice (some ⟨g, 0, none⟩) q.length c) ∧ w'.cell? ⟨b, 1, none⟩ = some (.map (some m)) ∧ w'.cell? ⟨g, j * 3, none⟩ = some (.int .u32 x0)))] L W from by
    intro W L hW c hc _
    simp only [List.mem_cons, List.not_mem_nil, or_false] at hc
    subst hc
    exact hW)
  refine Orders.begins (C := [(13, (fun w' => w'.cell? ⟨b, 0, none⟩ = some (.slice (some ⟨g, 0, none⟩) q.length c) ∧ w'.cell? ⟨b, 1, none⟩ = some (.map (some m)) ∧ w'.cell? ⟨g, j * 3, none⟩ = some (.int .u32 x0)))]) (by kernel_rfl) ?_
  rw [← hwd2]
  clear hwd2
  refine Orders.take (fun _ => True) [] (i := 0) (v := ?_) rfl (by kernel_rfl) (by kernel_rfl) (by kernel_rfl) (fun _ _ _ h => h) (by kernel_rfl) (fun _ _ _ _ => trivial) (by kernel_rfl) (by kernel_rfl) (Or.inl ⟨by rfl, ?_⟩) (HUN2.out _ _ HS2.out) (fun HU => ?_)
  rotate_left
  · intro u hSw
    try dsimp only at hSw
    go_simp
    try (with_reducible rfl)
  clear HU
  try simp only [Act.put, List.getElem_toArray, List.getElem_cons_succ, List.getElem_cons_zero, List.setIfInBounds_toArray, List.set_cons_zero, List.set_cons_succ]
  refine Orders.take (fun _ => True) [] (i := 1) (v := ?_) rfl (by kernel_rfl) (by kernel_rfl) (by kernel_rfl) (fun _ _ _ h => h) (by kernel_rfl) (fun _ _ _ _ => trivial) (by kernel_rfl) (by kernel_rfl) (Or.inl ⟨by rfl, ?_⟩) (HUN2.out _ _ HS2.out) (fun HU => ?_)
  rotate_left
  · intro u hSw
    try dsimp only at hSw
    go_simp
    try (with_reducible rfl)
  clear HU
  try simp only [Act.put, List.getElem_toArray, List.getElem_cons_succ, List.getElem_cons_zero, List.setIfInBounds_toArray, List.set_cons_zero, List.set_cons_succ]
  refine Orders.take (fun _ => True) [] (i := 2) (v := ?_) rfl (by kernel_rfl) (by kernel_rfl) (by kernel_rfl) (fun _ _ _ h => h) (by kernel_rfl) (fun _ _ _ _ => trivial) (by kernel_rfl) (by kernel_rfl) (Or.inl ⟨by rfl, ?_⟩) (HUN2.out _ _ HS2.out) (fun HU => ?_)
  rotate_left
  · intro u hSw
    try dsimp only at hSw
    go_simp
    try (with_reducible rfl)
  clear HU
  try simp only [Act.put, List.getElem_toArray, List.getElem_cons_succ, List.getElem_cons_zero, List.setIfInBounds_toArray, List.set_cons_zero, List.set_cons_succ]
  refine Orders.take (fun w' => w'.cell? ⟨b, 0, none⟩ = some (.slice (some ⟨g, 0, none⟩) q.length c) ∧ w'.cell? ⟨b, 1, none⟩ = some (.map (some m)) ∧ w'.cell? ⟨g, j * 3, none⟩ = some (.int .u32 x0)) [13] (i := 3) (v := ?_) rfl (by kernel_rfl) (by kernel_rfl) (by kernel_rfl) (fun _ _ _ h => h) (by kernel_rfl) (fun L u hd h => h (13, (fun w' => w'.cell? ⟨b, 0, none⟩ = some (.slice (some ⟨g, 0, none⟩) q.length c) ∧ w'.cell? ⟨b, 1, none⟩ = some (.map (some m)) ∧ w'.cell? ⟨g, j * 3, none⟩ = some (.int .u32 x0))) (by simp) (hd 13 (by simp))) (by kernel_rfl) (by kernel_rfl) (Or.inl ⟨by rfl, ?_⟩) (HUN2.out _ _ HS2.out) (fun HU => ?_)
  rotate_left
  · intro u hSw
    try dsimp only at hSw
    obtain ⟨s0, s1, s2⟩ := hSw
    go_simp
    try (with_reducible rfl)
  clear HU
  try simp only [Act.put, List.getElem_toArray, List.getElem_cons_succ, List.getElem_cons_zero, List.setIfInBounds_toArray, List.set_cons_zero, List.set_cons_succ]
  refine Orders.take (fun _ => True) [] (i := 4) (v := ?_) rfl (by kernel_rfl) (by kernel_rfl) (by kernel_rfl) (fun _ _ _ h => h) (by kernel_rfl) (fun _ _ _ _ => trivial) (by kernel_rfl) (by kernel_rfl) (Or.inl ⟨by rfl, ?_⟩) (HUN2.out _ _ HS2.out) (fun HU => ?_)
  rotate_left
  · intro u hSw
    try dsimp only at hSw
    go_simp
    try (with_reducible rfl)
  clear HU
  try simp only [Act.put, List.getElem_toArray, List.getElem_cons_succ, List.getElem_cons_zero, List.setIfInBounds_toArray, List.set_cons_zero, List.set_cons_succ]
  refine Orders.take (fun _ => True) [] (i := 5) (v := ?_) rfl (by kernel_rfl) (by kernel_rfl) (by kernel_rfl) (fun _ _ _ h => h) (by kernel_rfl) (fun _ _ _ _ => trivial) (by kernel_rfl) (by kernel_rfl) (Or.inl ⟨by rfl, ?_⟩) (HUN2.out _ _ HS2.out) (fun HU => ?_)
  rotate_left
  · intro u hSw
    try dsimp only at hSw
    go_simp
    try (with_reducible rfl)
  clear HU
  try simp only [Act.put, List.getElem_toArray, List.getElem_cons_succ, List.getElem_cons_zero, List.setIfInBounds_toArray, List.set_cons_zero, List.set_cons_succ]
  refine Orders.take (fun _ => True) [] (i := 6) (v := ?_) rfl (by kernel_rfl) (by kernel_rfl) (by kernel_rfl) (fun _ _ _ h => h) (by kernel_rfl) (fun _ _ _ _ => trivial) (by kernel_rfl) (by kernel_rfl) (Or.inl ⟨by rfl, ?_⟩) (HUN2.out _ _ HS2.out) (fun HU => ?_)
  rotate_left
  · intro u hSw
    try dsimp only at hSw
    go_simp
    try (with_reducible rfl)
  clear HU
  try simp only [Act.put, List.getElem_toArray, List.getElem_cons_succ, List.getElem_cons_zero, List.setIfInBounds_toArray, List.set_cons_zero, List.set_cons_succ]
  refine Orders.take (fun w' => w'.cell? ⟨b, 0, none⟩ = some (.slice (some ⟨g, 0, none⟩) q.length c) ∧ w'.cell? ⟨b, 1, none⟩ = some (.map (some m)) ∧ w'.cell? ⟨g, j * 3, none⟩ = some (.int .u32 x0)) [13] (i := 7) (v := ?_) rfl (by kernel_rfl) (by kernel_rfl) (by kernel_rfl) (fun _ _ _ h => h) (by kernel_rfl) (fun L u hd h => h (13, (fun w' => w'.cell? ⟨b, 0, none⟩ = some (.slice (some ⟨g, 0, none⟩) q.length c) ∧ w'.cell? ⟨b, 1, none⟩ = some (.map (some m)) ∧ w'.cell? ⟨g, j * 3, none⟩ = some (.int .u32 x0))) (by simp) (hd 13 (by simp))) (by kernel_rfl) (by kernel_rfl) (Or.inl ⟨by rfl, ?_⟩) (HUN2.out _ _ HS2.out) (fun HU => ?_)
  rotate_left
  · intro u hSw
    try dsimp only at hSw
    obtain ⟨s0, s1, s2⟩ := hSw
    go_simp
    try (with_reducible rfl)
  clear HU
  try simp only [Act.put, List.getElem_toArray, List.getElem_cons_succ, List.getElem_cons_zero, List.setIfInBounds_toArray, List.set_cons_zero, List.set_cons_succ]
  refine Orders.take (fun _ => True) [] (i := 8) (v := ?_) rfl (by kernel_rfl) (by kernel_rfl) (by kernel_rfl) (fun _ _ _ h => h) (by kernel_rfl) (fun _ _ _ _ => trivial) (by kernel_rfl) (by kernel_rfl) (Or.inl ⟨by rfl, ?_⟩) (HUN2.out _ _ HS2.out) (fun HU => ?_)
  rotate_left
  · intro u hSw
    try dsimp only at hSw
    go_simp
    try (with_reducible rfl)
  clear HU
  try simp only [Act.put, List.getElem_toArray, List.getElem_cons_succ, List.getElem_cons_zero, List.setIfInBounds_toArray, List.set_cons_zero, List.set_cons_succ]
  refine Orders.take (fun _ => True) [] (i := 9) (v := ?_) rfl (by kernel_rfl) (by kernel_rfl) (by kernel_rfl) (fun _ _ _ h => h) (by kernel_rfl) (fun _ _ _ _ => trivial) (by kernel_rfl) (by kernel_rfl) (Or.inl ⟨by rfl, ?_⟩) (HUN2.out _ _ HS2.out) (fun HU => ?_)
  rotate_left
  · intro u hSw
    try dsimp only at hSw
    go_simp
    try (with_reducible rfl)
  clear HU
  try simp only [Act.put, List.getElem_toArray, List.getElem_cons_succ, List.getElem_cons_zero, List.setIfInBounds_toArray, List.set_cons_zero, List.set_cons_succ]
  refine Orders.take (fun _ => True) [] (i := 10) (v := ?_) rfl (by kernel_rfl) (by kernel_rfl) (by kernel_rfl) (fun _ _ _ h => h) (by kernel_rfl) (fun _ _ _ _ => trivial) (by kernel_rfl) (by kernel_rfl) (Or.inl ⟨by rfl, ?_⟩) (HUN2.out _ _ HS2.out) (fun HU => ?_)
  rotate_left
  · intro u hSw
    try dsimp only at hSw
    go_simp
    try (with_reducible rfl)
  clear HU
  try simp only [Act.put, List.getElem_toArray, List.getElem_cons_succ, List.getElem_cons_zero, List.setIfInBounds_toArray, List.set_cons_zero, List.set_cons_succ]
  refine Orders.take (fun w' => w'.cell? ⟨b, 0, none⟩ = some (.slice (some ⟨g, 0, none⟩) q.length c) ∧ w'.cell? ⟨b, 1, none⟩ = some (.map (some m)) ∧ w'.cell? ⟨g, j * 3, none⟩ = some (.int .u32 x0)) [13] (i := 11) (v := ?_) rfl (by kernel_rfl) (by kernel_rfl) (by kernel_rfl) (fun _ _ _ h => h) (by kernel_rfl) (fun L u hd h => h (13, (fun w' => w'.cell? ⟨b, 0, none⟩ = some (.slice (some ⟨g, 0, none⟩) q.length c) ∧ w'.cell? ⟨b, 1, none⟩ = some (.map (some m)) ∧ w'.cell? ⟨g, j * 3, none⟩ = some (.int .u32 x0))) (by simp) (hd 13 (by simp))) (by kernel_rfl) (by kernel_rfl) (Or.inl ⟨by rfl, ?_⟩) (HUN2.out _ _ HS2.out) (fun HU => ?_)
  rotate_left
  · intro u hSw
    try dsimp only at hSw
    obtain ⟨s0, s1, s2⟩ := hSw
    go_simp
    try (with_reducible rfl)
  clear HU
  try simp only [Act.put, List.getElem_toArray, List.getElem_cons_succ, List.getElem_cons_zero, List.setIfInBounds_toArray, List.set_cons_zero, List.set_cons_succ]
  refine Orders.take (fun _ => True) [] (i := 12) (v := ?_) rfl (by kernel_rfl) (by kernel_rfl) (by kernel_rfl) (fun _ _ _ h => h) (by kernel_rfl) (fun _ _ _ _ => trivial) (by kernel_rfl) (by kernel_rfl) (Or.inl ⟨by rfl, ?_⟩) (HUN2.out _ _ HS2.out) (fun HU => ?_)
  rotate_left
  · intro u hSw
    try dsimp only at hSw
    go_simp
    try (with_reducible rfl)
  clear HU
  try simp only [Act.put, List.getElem_toArray, List.getElem_cons_succ, List.getElem_cons_zero, List.setIfInBounds_toArray, List.set_cons_zero, List.set_cons_succ]
  refine Orders.one (i := 13) (by kernel_rfl) rfl (fun K hK => ?_)
  have hrun := HR2.out
  go_simp
  refine hK.out _ _ ?_ (fun HU => ?_)
  · intro c hc hl
    simp only [List.mem_cons, List.not_mem_nil, or_false] at hc
    subst hc
    exact absurd hl (fun h => Bool.noConfusion (h.symm.trans (by kernel_rfl : _ = true)))
  clear hK K HU hrun
  try simp only [Act.put, List.getElem_toArray, List.getElem_cons_succ, List.getElem_cons_zero, List.setIfInBounds_toArray, List.set_cons_zero, List.set_cons_succ]
  refine Orders.ends (by kernel_rfl) ?_ _
  go_wp2_with fail
  go_end0
  exact ⟨rfl, HRW.out, HK4.out⟩

end Go.Proofs.Ytcgfechodbmimaa
