/-
  Layer 9: the document's Fly: its contract.
-/
import Derived.Test.YtecnopopmonlpaaRefA9
import Derived.Test.YtecnopopmonlpaaOrd
import Derived.Test.YtecnopopmonlpaaAppG
namespace Go.Proofs.Ytecnopopmonlpaa
open Go.RowKit
set_option linter.unusedVariables false
set_option linter.unusedSimpArgs false

/-- What reads as bytes doesn't lie where the head is. -/
theorem rd_head {w w' : World} {base : B9} {b : Nat} {TA TF : TypeId} {s : Ar} {fv v : Value} {PF : List (Fl × Value)} {l : List UInt8} (h : ArV w base b TA TF s fv PF) (hr : Rd w v l) (hk : Keeps (fun k => k = b) w w') (hf : ∀ n, fv ≠ .int .u8 n) : Rd w' v l := by
  obtain ⟨a, cap, rfl, h1, h2, h3, h4⟩ := hr
  refine ⟨a, cap, rfl, h1, h2, h3, fun x hx j hj => ?_⟩
  have hc := h4 x hx j hj
  by_cases e : (x.add j).block = b
  · exfalso
    obtain ⟨y, hy⟩ : ∃ y, y = x.add j := ⟨_, rfl⟩
    rw [← hy] at hc e
    obtain ⟨yb, yo, ys⟩ := y
    have hs := World.cell?_spot hc
    simp only at hs e
    subst hs e
    rw [cell_of_row _ _ _ _ _ _ h.head] at hc
    match yo, hc with
    | 0, hc => simp [bv] at hc
    | 1, hc => simp [bv] at hc
    | 2, hc =>
      simp only [bv] at hc
      exact hf _ (by simpa using hc)
    | n + 3, hc => simp at hc
  · rw [hk.cell (World.block_lt_of_cell? _ _ hc) e]
    exact hc

set_option maxRecDepth 100000 in
set_option maxHeartbeats 8000000 in
theorem reffly_yes (base : B9) (b : Nat) (s : Ar) (to : Int) (oa : Option Addr) (oc : Nat) (t : List UInt8) (w : World) (h : RefAirAt w base b s) (hb : base.n ≤ w.heap.size) (hv : Rd w (.slice oa t.length oc) t) (hr : s.l.length < s.room) (hlast : s.last ≤ 1000000) (ht : t.length ≤ 140737488355328) (hP : ∀ k, w.heap.size ≤ k → base.P k := by intros; trivial) :
    Calls Try.prog 11 #[.pointer (some ⟨b, 0, none⟩), .agg #[.int .i64 to, .slice oa t.length oc]] w fun e w' => e = .returned (.tuple #[.int .u64 ((s.last : Int) + 1), .int .i64 0]) ∧ RefAirAt w' base b (s.fly to t) ∧ KT refTs base.n w w' := by
  obtain ⟨fv, PF, hh⟩ := h
  obtain ⟨fa, fc, efv, hc1, hc2⟩ := hh.shape
  subst efv
  have hn : s.l.length ≤ 2048 := by obtain ⟨_, _, h3, h4, _⟩ := hh.ok; omega
  obtain ⟨w1, hw1⟩ : ∃ w1, w1 = w.alloc (.cells #[.int .i64 to, .slice oa t.length oc] 34) := ⟨_, rfl⟩
  have hb1 : Below w.heap.size w w1 := by rw [hw1]; exact (Below.refl w.heap.size w).alloc (Nat.le_refl _) _
  have g1 : w1.heap[w.heap.size]? = some (.cells #[.int .i64 to, .slice oa t.length oc] 34 (0, 0)) := by rw [hw1]; exact heap_alloc_new w _
  have hs1 : w1.heap.size = w.heap.size + 1 := by rw [hw1]; simp
  have H1 := hid (hh.below hb1)
  have HB1 := hid hb1
  have HG1 := hid g1
  have HV1 := hid (hv.below hb1)
  obtain ⟨c0, c1, c2, hfz⟩ := H1.out.cells
  have d0 : w1.drew.cell? ⟨b, 0, none⟩ = some (.int .i64 (s.room : Int)) := c0
  have d1 : w1.drew.cell? ⟨b, 1, none⟩ = some (.int .u64 (s.last : Int)) := c1
  have d2 : w1.drew.cell? ⟨b, 2, none⟩ = some (.slice fa s.l.length fc) := c2
  have f1 : w1.drew.frozen? ⟨b, 1, none⟩ = false := hfz 1
  have hne : ((s.l.length : Int) == (s.room : Int)) = false := by rw [beq_eq_false_iff_ne]; omega
  clear hh hb1 g1 hv hfz
  go_enter Try.func11, Try.ntmps11
  go_wp2_with fail
  rw [← hw1]
  clear hw1
  go_region_held3 (fun w' => w'.cell? ⟨b, 0, none⟩ = some (.int .i64 (s.room : Int)) ∧ w'.cell? ⟨b, 2, none⟩ = some (.slice fa s.l.length fc)) (first | (refine ⟨?_, ?_⟩ <;> assumption) | fail) (fail)
  go_wp2_with fail
  obtain ⟨w2, hw2⟩ : ∃ w2, w2 = (w1.setCell ⟨b, 1, none⟩ (.int .u64 ((s.last : Int) + 1))).drew := ⟨_, rfl⟩
  rw [← hw2]
  have hk2 : Keeps (fun k => k = b) w1 w2 := by rw [hw2]; exact (kset _ _ _ _).drew
  have hs2 : w2.heap.size = w1.heap.size := by rw [hw2]; show (w1.setCell _ _).heap.size = _; simp [World.setCell]
  have hhd : w2.heap[b]? = some (.cells #[.int .i64 (s.room : Int), .int .u64 ((s.last + 1 : Nat) : Int), .slice fa s.l.length fc] 53 (0, 0)) := by
    rw [hw2]
    show (w1.setCell _ _).heap[b]? = _
    rw [heap_setCell_same _ _ _ _ _ _ H1.out.head]
    simp
  have HHD := hid hhd
  have hbs : b < w2.heap.size := (Array.getElem?_eq_some_iff.1 hhd).1
  have hrow0 := H1.out.row
  rw [H1.out.len] at hrow0
  have HROW := hid (show w2.ownsRow base.n 50 3 (.slice fa s.l.length fc) s.l.length (PF.flatMap fcells) from owns_by hrow0 (fun k hk => hk2.block k (World.ownsRow.lt hrow0 k hk).2 (H1.out.apart (by decide) k hk)))
  have HXL := hid HROW.out.1
  have HONE := hid (one_fcells H1.out.own)
  have HOWN := hid (show ∀ x ∈ PF, Own w2 base.n x.2 x.1.t from fun x hx => hv0_own hk2 (H1.out.own x hx) H1.out.head (by decide))
  have HRD := hid (rd_head H1.out HV1.out hk2 (fun n e => by cases e))
  have K2 := hid (show KT refTs base.n w w2 from (KT.of_below HB1.out hb).trans (H1.out.ktS hk2 (fun k _ e => .inl e) (by omega)))
  have hgx := (hk2.block w.heap.size (by omega) (fun e => by
    have h9 := H1.out.head
    rw [← e, HG1.out] at h9
    simp only [Option.some.injEq, Obj.cells.injEq] at h9
    exact absurd h9.2.1 (by decide))).trans HG1.out
  have HS2 := hid (show w2.heap.size = w.heap.size + 1 by omega)
  have HUN := hid (show ∀ W L, Below w2.heap.size w2 W → UntilAll [(23, (fun w' => w'.cell? ⟨b, 2, none⟩ = some (.slice fa s.l.length fc))), (23, (fun w' => w'.cell? ⟨b, 1, none⟩ = some (.int .u64 ((s.last : Int) + 1)))), (23, (fun w' => w'.cell? ⟨w.heap.size, 0, none⟩ = some (.int .i64 to))), (23, (fun w' => w'.cell? ⟨w.heap.size, 1, none⟩ = some (.slice oa t.length oc)))] L W from by
    intro W L hW c hc _
    have hWb := (hW.block b hbs).trans hhd
    have hWx := (hW.block w.heap.size (by omega)).trans hgx
    simp only [List.mem_cons, List.not_mem_nil, or_false] at hc
    rcases hc with rfl | rfl | rfl | rfl
    · exact (cell_of_row _ _ _ _ _ _ hWb).trans rfl
    · exact (cell_of_row _ _ _ _ _ _ hWb).trans rfl
    · exact (cell_of_row _ _ _ _ _ _ hWx).trans rfl
    · exact (cell_of_row _ _ _ _ _ _ hWx).trans rfl)
  have HFIN := hid (show ∀ W adB cpB ad2 cp2, Below w2.heap.size w2 W → W.ownsRow w2.heap.size 5 1 (.slice adB t.length cpB) t.length (t.map bv) → W.ownsRow w2.heap.size 50 3 (.slice ad2 (s.l.length + 1) cp2) (s.l.length + 1) (PF.flatMap fcells ++ [.int .u64 ((s.last : Int) + 1), .int .i64 to, .slice adB t.length cpB]) →
      ArV (W.setCell ⟨b, 2, none⟩ (.slice ad2 (s.l.length + 1) cp2)) base b 53 50 (s.fly to t) (.slice ad2 (s.l.length + 1) cp2) (PF ++ [(⟨s.last + 1, to, t⟩, .slice adB t.length cpB)]) ∧ KT refTs base.n w (W.setCell ⟨b, 2, none⟩ (.slice ad2 (s.l.length + 1) cp2)) from by
    intro W adB cpB ad2 cp2 hW hB hF
    have h21 := HS2.out
    obtain ⟨q1, q2⟩ := arv_push (base := base) ((hW.block b hbs).trans hhd) (owns_base hF (by omega)) (fun x hx => (HOWN.out x hx).below hW) (owns_base hB (by omega)) H1.out.list H1.out.low H1.out.far (fun k hk => hP k (by have := (World.ownsRow.lt hB k hk).1; omega)) (Ar.fly_ok H1.out.ok to t hr ht) (by decide) (by decide)
    exact ⟨q1, (K2.out.trans (KT.of_below hW (by omega))).trans q2⟩)
  obtain ⟨wd, hwd⟩ : ∃ wd, wd = w2.drew := ⟨_, rfl⟩
  have HBwd := hid (show Below w2.heap.size w2 wd by rw [hwd]; exact below_dr (Below.refl _ _))
  clear hw2 hk2 hhd hrow0 hgx c0 c1 c2 d0 d1 d2 f1 hs1 hs2
  refine Orders.begins (C := [(23, (fun w' => w'.cell? ⟨b, 2, none⟩ = some (.slice fa s.l.length fc))), (23, (fun w' => w'.cell? ⟨b, 1, none⟩ = some (.int .u64 ((s.last : Int) + 1)))), (23, (fun w' => w'.cell? ⟨w.heap.size, 0, none⟩ = some (.int .i64 to))), (23, (fun w' => w'.cell? ⟨w.heap.size, 1, none⟩ = some (.slice oa t.length oc)))]) (by kernel_rfl) ?_
  rw [← hwd]
  clear hwd
  refine Orders.take (fun _ => True) [] (i := 0) (v := ?_) rfl (by kernel_rfl) (by kernel_rfl) (by kernel_rfl) (fun _ _ _ h => h) (by kernel_rfl) (fun _ _ _ _ => trivial) (by kernel_rfl) (by kernel_rfl) (Or.inl ⟨by rfl, ?_⟩) (HUN.out _ _ HBwd.out) (fun HU => ?_)
  rotate_left
  · intro u hSw
    try dsimp only at hSw
    go_simp
    try (with_reducible rfl)
  clear HU
  try simp only [Act.put, List.setIfInBounds_toArray, List.set_cons_zero, List.set_cons_succ]
  refine Orders.take (fun _ => True) [] (i := 2) (v := ?_) rfl (by kernel_rfl) (by kernel_rfl) (by kernel_rfl) (fun _ _ _ h => h) (by kernel_rfl) (fun _ _ _ _ => trivial) (by kernel_rfl) (by kernel_rfl) (Or.inl ⟨by rfl, ?_⟩) (HUN.out _ _ HBwd.out) (fun HU => ?_)
  rotate_left
  · intro u hSw
    try dsimp only at hSw
    go_simp
    try (with_reducible rfl)
  clear HU
  try simp only [Act.put, List.setIfInBounds_toArray, List.set_cons_zero, List.set_cons_succ]
  refine Orders.take (fun _ => True) [] (i := 3) (v := ?_) rfl (by kernel_rfl) (by kernel_rfl) (by kernel_rfl) (fun _ _ _ h => h) (by kernel_rfl) (fun _ _ _ _ => trivial) (by kernel_rfl) (by kernel_rfl) (Or.inl ⟨by rfl, ?_⟩) (HUN.out _ _ HBwd.out) (fun HU => ?_)
  rotate_left
  · intro u hSw
    try dsimp only at hSw
    go_simp
    try (with_reducible rfl)
  clear HU
  try simp only [Act.put, List.setIfInBounds_toArray, List.set_cons_zero, List.set_cons_succ]
  refine Orders.take (fun _ => True) [] (i := 4) (v := ?_) rfl (by kernel_rfl) (by kernel_rfl) (by kernel_rfl) (fun _ _ _ h => h) (by kernel_rfl) (fun _ _ _ _ => trivial) (by kernel_rfl) (by kernel_rfl) (Or.inl ⟨by rfl, ?_⟩) (HUN.out _ _ HBwd.out) (fun HU => ?_)
  rotate_left
  · intro u hSw
    try dsimp only at hSw
    go_simp
    try (with_reducible rfl)
  clear HU
  try simp only [Act.put, List.setIfInBounds_toArray, List.set_cons_zero, List.set_cons_succ]
  refine Orders.take (fun w' => w'.cell? ⟨b, 2, none⟩ = some (.slice fa s.l.length fc)) [23] (i := 5) (v := ?_) rfl (by kernel_rfl) (by kernel_rfl) (by kernel_rfl) (fun _ _ _ h => h) (by kernel_rfl) (fun L u hd h => h (23, (fun w' => w'.cell? ⟨b, 2, none⟩ = some (.slice fa s.l.length fc))) (by simp) (hd 23 (by simp))) (by kernel_rfl) (by kernel_rfl) (Or.inl ⟨by rfl, ?_⟩) (HUN.out _ _ HBwd.out) (fun HU => ?_)
  rotate_left
  · intro u hSw
    try dsimp only at hSw
    go_simp
    try (with_reducible rfl)
  clear HU
  try simp only [Act.put, List.setIfInBounds_toArray, List.set_cons_zero, List.set_cons_succ]
  refine Orders.take (fun _ => True) [] (i := 7) (v := ?_) rfl (by kernel_rfl) (by kernel_rfl) (by kernel_rfl) (fun _ _ _ h => h) (by kernel_rfl) (fun _ _ _ _ => trivial) (by kernel_rfl) (by kernel_rfl) (Or.inl ⟨by rfl, ?_⟩) (HUN.out _ _ HBwd.out) (fun HU => ?_)
  rotate_left
  · intro u hSw
    try dsimp only at hSw
    go_simp
    try (with_reducible rfl)
  clear HU
  try simp only [Act.put, List.setIfInBounds_toArray, List.set_cons_zero, List.set_cons_succ]
  refine Orders.take (fun _ => True) [] (i := 8) (v := ?_) rfl (by kernel_rfl) (by kernel_rfl) (by kernel_rfl) (fun _ _ _ h => h) (by kernel_rfl) (fun _ _ _ _ => trivial) (by kernel_rfl) (by kernel_rfl) (Or.inl ⟨by rfl, ?_⟩) (HUN.out _ _ HBwd.out) (fun HU => ?_)
  rotate_left
  · intro u hSw
    try dsimp only at hSw
    go_simp
    try (with_reducible rfl)
  clear HU
  try simp only [Act.put, List.setIfInBounds_toArray, List.set_cons_zero, List.set_cons_succ]
  refine Orders.take (fun _ => True) [] (i := 9) (v := ?_) rfl (by kernel_rfl) (by kernel_rfl) (by kernel_rfl) (fun _ _ _ h => h) (by kernel_rfl) (fun _ _ _ _ => trivial) (by kernel_rfl) (by kernel_rfl) (Or.inl ⟨by rfl, ?_⟩) (HUN.out _ _ HBwd.out) (fun HU => ?_)
  rotate_left
  · intro u hSw
    try dsimp only at hSw
    go_simp
    try (with_reducible rfl)
  clear HU
  try simp only [Act.put, List.setIfInBounds_toArray, List.set_cons_zero, List.set_cons_succ]
  refine Orders.take (fun w' => w'.cell? ⟨b, 1, none⟩ = some (.int .u64 ((s.last : Int) + 1))) [23] (i := 10) (v := ?_) rfl (by kernel_rfl) (by kernel_rfl) (by kernel_rfl) (fun _ _ _ h => h) (by kernel_rfl) (fun L u hd h => h (23, (fun w' => w'.cell? ⟨b, 1, none⟩ = some (.int .u64 ((s.last : Int) + 1)))) (by simp) (hd 23 (by simp))) (by kernel_rfl) (by kernel_rfl) (Or.inl ⟨by rfl, ?_⟩) (HUN.out _ _ HBwd.out) (fun HU => ?_)
  rotate_left
  · intro u hSw
    try dsimp only at hSw
    go_simp
    try (with_reducible rfl)
  clear HU
  try simp only [Act.put, List.setIfInBounds_toArray, List.set_cons_zero, List.set_cons_succ]
  refine Orders.take (fun _ => True) [] (i := 11) (v := ?_) rfl (by kernel_rfl) (by kernel_rfl) (by kernel_rfl) (fun _ _ _ h => h) (by kernel_rfl) (fun _ _ _ _ => trivial) (by kernel_rfl) (by kernel_rfl) (Or.inl ⟨by rfl, ?_⟩) (HUN.out _ _ HBwd.out) (fun HU => ?_)
  rotate_left
  · intro u hSw
    try dsimp only at hSw
    go_simp
    try (with_reducible rfl)
  clear HU
  try simp only [Act.put, List.setIfInBounds_toArray, List.set_cons_zero, List.set_cons_succ]
  refine Orders.take (fun w' => w'.cell? ⟨w.heap.size, 0, none⟩ = some (.int .i64 to)) [23] (i := 12) (v := ?_) rfl (by kernel_rfl) (by kernel_rfl) (by kernel_rfl) (fun _ _ _ h => h) (by kernel_rfl) (fun L u hd h => h (23, (fun w' => w'.cell? ⟨w.heap.size, 0, none⟩ = some (.int .i64 to))) (by simp) (hd 23 (by simp))) (by kernel_rfl) (by kernel_rfl) (Or.inl ⟨by rfl, ?_⟩) (HUN.out _ _ HBwd.out) (fun HU => ?_)
  rotate_left
  · intro u hSw
    try dsimp only at hSw
    go_simp
    try (with_reducible rfl)
  clear HU
  try simp only [Act.put, List.setIfInBounds_toArray, List.set_cons_zero, List.set_cons_succ]
  refine Orders.take (fun _ => True) [] (i := 14) (v := ?_) rfl (by kernel_rfl) (by kernel_rfl) (by kernel_rfl) (fun _ _ _ h => h) (by kernel_rfl) (fun _ _ _ _ => trivial) (by kernel_rfl) (by kernel_rfl) (Or.inl ⟨by rfl, ?_⟩) (HUN.out _ _ HBwd.out) (fun HU => ?_)
  rotate_left
  · intro u hSw
    try dsimp only at hSw
    go_simp
    try (with_reducible rfl)
  clear HU
  try simp only [Act.put, List.setIfInBounds_toArray, List.set_cons_zero, List.set_cons_succ]
  refine Orders.take (fun w' => w'.cell? ⟨w.heap.size, 1, none⟩ = some (.slice oa t.length oc)) [23] (i := 15) (v := ?_) rfl (by kernel_rfl) (by kernel_rfl) (by kernel_rfl) (fun _ _ _ h => h) (by kernel_rfl) (fun L u hd h => h (23, (fun w' => w'.cell? ⟨w.heap.size, 1, none⟩ = some (.slice oa t.length oc))) (by simp) (hd 23 (by simp))) (by kernel_rfl) (by kernel_rfl) (Or.inl ⟨by rfl, ?_⟩) (HUN.out _ _ HBwd.out) (fun HU => ?_)
  rotate_left
  · intro u hSw
    try dsimp only at hSw
    go_simp
    try (with_reducible rfl)
  clear HU
  try simp only [Act.put, List.setIfInBounds_toArray, List.set_cons_zero, List.set_cons_succ]
  refine Orders.two (i := 1) (j := 13) (by kernel_rfl) rfl rfl (fun K hK => ?_) (fun K hK => ?_)
  · go_simp
    have hbwx1 : Below wd.heap.size wd (wd.alloc (.cells #[] 50)) := (Below.refl _ _).alloc (Nat.le_refl _) _
    have HBwx1 := hid (HBwd.out.trans (hbwx1.mono HBwd.out.size))
    refine hK.out _ _ (HUN.out _ _ HBwx1.out) (fun HU => ?_)
    clear hK K HU
    try simp only [Act.put, List.setIfInBounds_toArray, List.set_cons_zero, List.set_cons_succ]
    have H26wx1 := hid (World.ownsRow_made wd (e := 50) (size := 3) #[] 0 (base := w2.heap.size) HBwd.out.size (Nat.zero_le _) rfl)
    obtain ⟨wx1, hwx1⟩ : ∃ wx1, wx1 = wd.alloc (.cells #[] 50) := ⟨_, rfl⟩
    rw [← hwx1] at HBwx1 hbwx1 H26wx1
    rw [← hwx1]
    clear hwx1 hbwx1
    obtain ⟨g26, hg26⟩ : ∃ g, g = wd.heap.size := ⟨_, rfl⟩
    rw [← hg26] at H26wx1
    rw [← hg26]
    clear hg26
    refine Orders.two (i := 6) (j := 13) (by kernel_rfl) rfl rfl (fun K hK => ?_) (fun K hK => ?_)
    · refine appsst (by rfl) 51 50 (.tmp 26) (.tmp 30) rfl w2.heap.size 3 40 _ Try.underlying51 infoRF rfl (by decide) (.slice (some ⟨g26, 0, none⟩) 0 0) (.slice fa s.l.length fc) 0 s.l.length s.l.length [] (PF.flatMap fcells) rfl rfl H26wx1.out (SrcC.of_own (owns_below HROW.out HBwx1.out)) HXL.out HONE.out (by omega) (by omega) (by omega) HBwx1.out.size ?_
      intro ad1 cp1 wx2 ho hg
      have hk := own_grown9 H26wx1.out hg HBwx1.out.size
      have HBwx2 := hid (HBwx1.out.trans hk.below)
      refine hK.out _ _ (HUN.out _ _ HBwx2.out) (fun HU => ?_)
      clear hK K HU
      rw [List.nil_append] at ho
      have H31wx2 := hid ho
      clear ho hg hk
      try simp only [Act.put, List.setIfInBounds_toArray, List.set_cons_zero, List.set_cons_succ]
      refine Orders.one (i := 13) (by kernel_rfl) rfl (fun K hK => ?_)
      go_simp
      have hbwx3 : Below wx2.heap.size wx2 (wx2.alloc (.cells #[] 5)) := (Below.refl _ _).alloc (Nat.le_refl _) _
      have HBwx3 := hid (HBwx2.out.trans (hbwx3.mono HBwx2.out.size))
      refine hK.out _ _ (HUN.out _ _ HBwx3.out) (fun HU => ?_)
      clear hK K HU
      try simp only [Act.put, List.setIfInBounds_toArray, List.set_cons_zero, List.set_cons_succ]
      have H31wx3 := hid (owns_below H31wx2.out hbwx3)
      have H38wx3 := hid (World.ownsRow_made wx2 (e := 5) (size := 1) #[] 0 (base := w2.heap.size) HBwx2.out.size (Nat.zero_le _) rfl)
      obtain ⟨wx3, hwx3⟩ : ∃ wx3, wx3 = wx2.alloc (.cells #[] 5) := ⟨_, rfl⟩
      rw [← hwx3] at HBwx3 hbwx3 H31wx3 H38wx3
      rw [← hwx3]
      clear hwx3 hbwx3
      obtain ⟨g38, hg38⟩ : ∃ g, g = wx2.heap.size := ⟨_, rfl⟩
      rw [← hg38] at H38wx3
      rw [← hg38]
      clear hg38
      refine Orders.one (i := 16) (by kernel_rfl) rfl (fun K hK => ?_)
      refine appst (by rfl) (.tmp 38) (.tmp 40) rfl w2.heap.size (.slice (some ⟨g38, 0, none⟩) 0 0) (.slice oa t.length oc) [] t t t.length rfl rfl H38wx3.out (HRD.out.below HBwx3.out) (by simp) rfl (by simp; omega) HBwx3.out.size ?_
      intro adB cpB wx4 ho hg
      have hk := own_grown9 H38wx3.out hg HBwx3.out.size
      have HBwx4 := hid (HBwx3.out.trans hk.below)
      refine hK.out _ _ (HUN.out _ _ HBwx4.out) (fun HU => ?_)
      clear hK K HU
      have H41wx4 := hid ho
      have H31wx4 := hid (owns_kt H31wx3.out hk (by decide))
      clear ho hg hk
      try simp only [Act.put, List.setIfInBounds_toArray, List.set_cons_zero, List.set_cons_succ]
      refine Orders.take (fun _ => True) [] (i := 17) (v := ?_) rfl (by kernel_rfl) (by kernel_rfl) (by kernel_rfl) (fun _ _ _ h => h) (by kernel_rfl) (fun _ _ _ _ => trivial) (by kernel_rfl) (by kernel_rfl) (Or.inl ⟨by rfl, ?_⟩) (HUN.out _ _ HBwx4.out) (fun HU => ?_)
      rotate_left
      · intro u hSw
        try dsimp only at hSw
        go_simp
        try (with_reducible rfl)
      clear HU
      try simp only [Act.put, List.setIfInBounds_toArray, List.set_cons_zero, List.set_cons_succ]
      refine Orders.take (fun _ => True) [] (i := 18) (v := ?_) rfl (by kernel_rfl) (by kernel_rfl) (by kernel_rfl) (fun _ _ _ h => h) (by kernel_rfl) (fun _ _ _ _ => trivial) (by kernel_rfl) (by kernel_rfl) (Or.inl ⟨by rfl, ?_⟩) (HUN.out _ _ HBwx4.out) (fun HU => ?_)
      rotate_left
      · intro u hSw
        try dsimp only at hSw
        go_simp
        try (with_reducible rfl)
      clear HU
      try simp only [Act.put, List.setIfInBounds_toArray, List.set_cons_zero, List.set_cons_succ]
      refine Orders.one (i := 19) (by kernel_rfl) rfl (fun K hK => ?_)
      go_simp
      have hbwx5 : Below wx4.heap.size wx4 (wx4.alloc (.cells #[.int .u64 ((s.last : Int) + 1), .int .i64 to, .slice adB t.length cpB] 50)) := (Below.refl _ _).alloc (Nat.le_refl _) _
      have HBwx5 := hid (HBwx4.out.trans (hbwx5.mono HBwx4.out.size))
      refine hK.out _ _ (HUN.out _ _ HBwx5.out) (fun HU => ?_)
      clear hK K HU
      try simp only [Act.put, List.setIfInBounds_toArray, List.set_cons_zero, List.set_cons_succ]
      have H31wx5 := hid (owns_below H31wx4.out hbwx5)
      have H41wx5 := hid (owns_below H41wx4.out hbwx5)
      have H44wx5 := hid (SrcC.lit wx4 #[.int .u64 ((s.last : Int) + 1), .int .i64 to, .slice adB t.length cpB] 50 1 _ rfl)
      obtain ⟨wx5, hwx5⟩ : ∃ wx5, wx5 = wx4.alloc (.cells #[.int .u64 ((s.last : Int) + 1), .int .i64 to, .slice adB t.length cpB] 50) := ⟨_, rfl⟩
      rw [← hwx5] at HBwx5 hbwx5 H31wx5 H41wx5 H44wx5
      rw [← hwx5]
      clear hwx5 hbwx5
      obtain ⟨g44, hg44⟩ : ∃ g, g = wx4.heap.size := ⟨_, rfl⟩
      rw [← hg44] at H44wx5
      rw [← hg44]
      clear hg44
      refine Orders.one (i := 20) (by kernel_rfl) rfl (fun K hK => ?_)
      refine appsst (by rfl) 51 50 (.tmp 31) (.tmp 44) rfl w2.heap.size 3 40 _ Try.underlying51 infoRF rfl (by decide) (.slice ad1 s.l.length cp1) (.slice (some ⟨g44, 0, none⟩) 1 1) s.l.length 1 (s.l.length + 1) (PF.flatMap fcells) _ rfl rfl H31wx5.out H44wx5.out rfl (by simp [Value.oneCell']) rfl (by omega) (by omega) HBwx5.out.size ?_
      intro ad2 cp2 wx6 ho hg
      have hk := own_grown9 H31wx5.out hg HBwx5.out.size
      have HBwx6 := hid (HBwx5.out.trans hk.below)
      refine hK.out _ _ (HUN.out _ _ HBwx6.out) (fun HU => ?_)
      clear hK K HU
      have H45wx6 := hid ho
      have H41wx6 := hid (owns_kt H41wx5.out hk (by decide))
      clear ho hg hk
      try simp only [Act.put, List.setIfInBounds_toArray, List.set_cons_zero, List.set_cons_succ]
      obtain ⟨q1, q2⟩ := HFIN.out _ _ _ _ _ HBwx6.out H41wx6.out H45wx6.out
      have HQ1 := hid q1
      have HQ2 := hid q2
      have hdwx6 := (HBwx6.out.block b hbs).trans HHD.out
      have y2 : wx6.cell? ⟨b, 2, none⟩ = some (.slice fa s.l.length fc) := (cell_of_row _ _ _ _ _ _ hdwx6).trans rfl
      have z2 : wx6.frozen? ⟨b, 2, none⟩ = false := frozen_of_row _ _ _ _ _ hdwx6
      clear q1 q2 hdwx6
      refine Orders.take (fun _ => True) [] (i := 21) (v := ?_) rfl (by kernel_rfl) (by kernel_rfl) (by kernel_rfl) (fun _ _ _ h => h) (by kernel_rfl) (fun _ _ _ _ => trivial) (by kernel_rfl) (by kernel_rfl) (Or.inl ⟨by rfl, ?_⟩) (HUN.out _ _ HBwx6.out) (fun HU => ?_)
      rotate_left
      · intro u hSw
        try dsimp only at hSw
        go_simp
        try (with_reducible rfl)
      clear HU
      try simp only [Act.put, List.setIfInBounds_toArray, List.set_cons_zero, List.set_cons_succ]
      refine Orders.take (fun _ => True) [] (i := 22) (v := ?_) rfl (by kernel_rfl) (by kernel_rfl) (by kernel_rfl) (fun _ _ _ h => h) (by kernel_rfl) (fun _ _ _ _ => trivial) (by kernel_rfl) (by kernel_rfl) (Or.inl ⟨by rfl, ?_⟩) (HUN.out _ _ HBwx6.out) (fun HU => ?_)
      rotate_left
      · intro u hSw
        try dsimp only at hSw
        go_simp
        try (with_reducible rfl)
      clear HU
      try simp only [Act.put, List.setIfInBounds_toArray, List.set_cons_zero, List.set_cons_succ]
      refine Orders.one (i := 23) (by kernel_rfl) rfl (fun K hK => ?_)
      go_simp
      refine hK.out _ _ ?_ (fun HU => ?_)
      · intro c hc hl
        simp only [List.mem_cons, List.not_mem_nil, or_false] at hc
        rcases hc with rfl | rfl | rfl | rfl <;> exact absurd hl (fun h => Bool.noConfusion (h.symm.trans (by kernel_rfl : _ = true)))
      clear hK K HU
      try simp only [Act.put, List.setIfInBounds_toArray, List.set_cons_zero, List.set_cons_succ]
      refine Orders.ends (by kernel_rfl) ?_ _
      have y1 : (wx6.setCell ⟨b, 2, none⟩ (.slice ad2 (s.l.length + 1) cp2)).cell? ⟨b, 1, none⟩ = some (.int .u64 ((s.last : Int) + 1)) := (cell_of_row _ _ _ _ _ _ HQ1.out.head).trans rfl
      go_wp2_with fail
      go_ret2
      exact ⟨rfl, ⟨_, _, HQ1.out⟩, HQ2.out⟩
    · go_simp
      have hbwx7 : Below wx1.heap.size wx1 (wx1.alloc (.cells #[] 5)) := (Below.refl _ _).alloc (Nat.le_refl _) _
      have HBwx7 := hid (HBwx1.out.trans (hbwx7.mono HBwx1.out.size))
      refine hK.out _ _ (HUN.out _ _ HBwx7.out) (fun HU => ?_)
      clear hK K HU
      try simp only [Act.put, List.setIfInBounds_toArray, List.set_cons_zero, List.set_cons_succ]
      have H26wx7 := hid (owns_below H26wx1.out hbwx7)
      have H38wx7 := hid (World.ownsRow_made wx1 (e := 5) (size := 1) #[] 0 (base := w2.heap.size) HBwx1.out.size (Nat.zero_le _) rfl)
      obtain ⟨wx7, hwx7⟩ : ∃ wx7, wx7 = wx1.alloc (.cells #[] 5) := ⟨_, rfl⟩
      rw [← hwx7] at HBwx7 hbwx7 H26wx7 H38wx7
      rw [← hwx7]
      clear hwx7 hbwx7
      obtain ⟨g38, hg38⟩ : ∃ g, g = wx1.heap.size := ⟨_, rfl⟩
      rw [← hg38] at H38wx7
      rw [← hg38]
      clear hg38
      refine Orders.one (i := 6) (by kernel_rfl) rfl (fun K hK => ?_)
      refine appsst (by rfl) 51 50 (.tmp 26) (.tmp 30) rfl w2.heap.size 3 40 _ Try.underlying51 infoRF rfl (by decide) (.slice (some ⟨g26, 0, none⟩) 0 0) (.slice fa s.l.length fc) 0 s.l.length s.l.length [] (PF.flatMap fcells) rfl rfl H26wx7.out (SrcC.of_own (owns_below HROW.out HBwx7.out)) HXL.out HONE.out (by omega) (by omega) (by omega) HBwx7.out.size ?_
      intro ad1 cp1 wx8 ho hg
      have hk := own_grown9 H26wx7.out hg HBwx7.out.size
      have HBwx8 := hid (HBwx7.out.trans hk.below)
      refine hK.out _ _ (HUN.out _ _ HBwx8.out) (fun HU => ?_)
      clear hK K HU
      rw [List.nil_append] at ho
      have H31wx8 := hid ho
      have H38wx8 := hid (owns_kt H38wx7.out hk (by decide))
      clear ho hg hk
      try simp only [Act.put, List.setIfInBounds_toArray, List.set_cons_zero, List.set_cons_succ]
      refine Orders.one (i := 16) (by kernel_rfl) rfl (fun K hK => ?_)
      refine appst (by rfl) (.tmp 38) (.tmp 40) rfl w2.heap.size (.slice (some ⟨g38, 0, none⟩) 0 0) (.slice oa t.length oc) [] t t t.length rfl rfl H38wx8.out (HRD.out.below HBwx8.out) (by simp) rfl (by simp; omega) HBwx8.out.size ?_
      intro adB cpB wx9 ho hg
      have hk := own_grown9 H38wx8.out hg HBwx8.out.size
      have HBwx9 := hid (HBwx8.out.trans hk.below)
      refine hK.out _ _ (HUN.out _ _ HBwx9.out) (fun HU => ?_)
      clear hK K HU
      have H41wx9 := hid ho
      have H31wx9 := hid (owns_kt H31wx8.out hk (by decide))
      clear ho hg hk
      try simp only [Act.put, List.setIfInBounds_toArray, List.set_cons_zero, List.set_cons_succ]
      refine Orders.take (fun _ => True) [] (i := 17) (v := ?_) rfl (by kernel_rfl) (by kernel_rfl) (by kernel_rfl) (fun _ _ _ h => h) (by kernel_rfl) (fun _ _ _ _ => trivial) (by kernel_rfl) (by kernel_rfl) (Or.inl ⟨by rfl, ?_⟩) (HUN.out _ _ HBwx9.out) (fun HU => ?_)
      rotate_left
      · intro u hSw
        try dsimp only at hSw
        go_simp
        try (with_reducible rfl)
      clear HU
      try simp only [Act.put, List.setIfInBounds_toArray, List.set_cons_zero, List.set_cons_succ]
      refine Orders.take (fun _ => True) [] (i := 18) (v := ?_) rfl (by kernel_rfl) (by kernel_rfl) (by kernel_rfl) (fun _ _ _ h => h) (by kernel_rfl) (fun _ _ _ _ => trivial) (by kernel_rfl) (by kernel_rfl) (Or.inl ⟨by rfl, ?_⟩) (HUN.out _ _ HBwx9.out) (fun HU => ?_)
      rotate_left
      · intro u hSw
        try dsimp only at hSw
        go_simp
        try (with_reducible rfl)
      clear HU
      try simp only [Act.put, List.setIfInBounds_toArray, List.set_cons_zero, List.set_cons_succ]
      refine Orders.one (i := 19) (by kernel_rfl) rfl (fun K hK => ?_)
      go_simp
      have hbwx10 : Below wx9.heap.size wx9 (wx9.alloc (.cells #[.int .u64 ((s.last : Int) + 1), .int .i64 to, .slice adB t.length cpB] 50)) := (Below.refl _ _).alloc (Nat.le_refl _) _
      have HBwx10 := hid (HBwx9.out.trans (hbwx10.mono HBwx9.out.size))
      refine hK.out _ _ (HUN.out _ _ HBwx10.out) (fun HU => ?_)
      clear hK K HU
      try simp only [Act.put, List.setIfInBounds_toArray, List.set_cons_zero, List.set_cons_succ]
      have H31wx10 := hid (owns_below H31wx9.out hbwx10)
      have H41wx10 := hid (owns_below H41wx9.out hbwx10)
      have H44wx10 := hid (SrcC.lit wx9 #[.int .u64 ((s.last : Int) + 1), .int .i64 to, .slice adB t.length cpB] 50 1 _ rfl)
      obtain ⟨wx10, hwx10⟩ : ∃ wx10, wx10 = wx9.alloc (.cells #[.int .u64 ((s.last : Int) + 1), .int .i64 to, .slice adB t.length cpB] 50) := ⟨_, rfl⟩
      rw [← hwx10] at HBwx10 hbwx10 H31wx10 H41wx10 H44wx10
      rw [← hwx10]
      clear hwx10 hbwx10
      obtain ⟨g44, hg44⟩ : ∃ g, g = wx9.heap.size := ⟨_, rfl⟩
      rw [← hg44] at H44wx10
      rw [← hg44]
      clear hg44
      refine Orders.one (i := 20) (by kernel_rfl) rfl (fun K hK => ?_)
      refine appsst (by rfl) 51 50 (.tmp 31) (.tmp 44) rfl w2.heap.size 3 40 _ Try.underlying51 infoRF rfl (by decide) (.slice ad1 s.l.length cp1) (.slice (some ⟨g44, 0, none⟩) 1 1) s.l.length 1 (s.l.length + 1) (PF.flatMap fcells) _ rfl rfl H31wx10.out H44wx10.out rfl (by simp [Value.oneCell']) rfl (by omega) (by omega) HBwx10.out.size ?_
      intro ad2 cp2 wx11 ho hg
      have hk := own_grown9 H31wx10.out hg HBwx10.out.size
      have HBwx11 := hid (HBwx10.out.trans hk.below)
      refine hK.out _ _ (HUN.out _ _ HBwx11.out) (fun HU => ?_)
      clear hK K HU
      have H45wx11 := hid ho
      have H41wx11 := hid (owns_kt H41wx10.out hk (by decide))
      clear ho hg hk
      try simp only [Act.put, List.setIfInBounds_toArray, List.set_cons_zero, List.set_cons_succ]
      obtain ⟨q1, q2⟩ := HFIN.out _ _ _ _ _ HBwx11.out H41wx11.out H45wx11.out
      have HQ1 := hid q1
      have HQ2 := hid q2
      have hdwx11 := (HBwx11.out.block b hbs).trans HHD.out
      have y2 : wx11.cell? ⟨b, 2, none⟩ = some (.slice fa s.l.length fc) := (cell_of_row _ _ _ _ _ _ hdwx11).trans rfl
      have z2 : wx11.frozen? ⟨b, 2, none⟩ = false := frozen_of_row _ _ _ _ _ hdwx11
      clear q1 q2 hdwx11
      refine Orders.take (fun _ => True) [] (i := 21) (v := ?_) rfl (by kernel_rfl) (by kernel_rfl) (by kernel_rfl) (fun _ _ _ h => h) (by kernel_rfl) (fun _ _ _ _ => trivial) (by kernel_rfl) (by kernel_rfl) (Or.inl ⟨by rfl, ?_⟩) (HUN.out _ _ HBwx11.out) (fun HU => ?_)
      rotate_left
      · intro u hSw
        try dsimp only at hSw
        go_simp
        try (with_reducible rfl)
      clear HU
      try simp only [Act.put, List.setIfInBounds_toArray, List.set_cons_zero, List.set_cons_succ]
      refine Orders.take (fun _ => True) [] (i := 22) (v := ?_) rfl (by kernel_rfl) (by kernel_rfl) (by kernel_rfl) (fun _ _ _ h => h) (by kernel_rfl) (fun _ _ _ _ => trivial) (by kernel_rfl) (by kernel_rfl) (Or.inl ⟨by rfl, ?_⟩) (HUN.out _ _ HBwx11.out) (fun HU => ?_)
      rotate_left
      · intro u hSw
        try dsimp only at hSw
        go_simp
        try (with_reducible rfl)
      clear HU
      try simp only [Act.put, List.setIfInBounds_toArray, List.set_cons_zero, List.set_cons_succ]
      refine Orders.one (i := 23) (by kernel_rfl) rfl (fun K hK => ?_)
      go_simp
      refine hK.out _ _ ?_ (fun HU => ?_)
      · intro c hc hl
        simp only [List.mem_cons, List.not_mem_nil, or_false] at hc
        rcases hc with rfl | rfl | rfl | rfl <;> exact absurd hl (fun h => Bool.noConfusion (h.symm.trans (by kernel_rfl : _ = true)))
      clear hK K HU
      try simp only [Act.put, List.setIfInBounds_toArray, List.set_cons_zero, List.set_cons_succ]
      refine Orders.ends (by kernel_rfl) ?_ _
      have y1 : (wx11.setCell ⟨b, 2, none⟩ (.slice ad2 (s.l.length + 1) cp2)).cell? ⟨b, 1, none⟩ = some (.int .u64 ((s.last : Int) + 1)) := (cell_of_row _ _ _ _ _ _ HQ1.out.head).trans rfl
      go_wp2_with fail
      go_ret2
      exact ⟨rfl, ⟨_, _, HQ1.out⟩, HQ2.out⟩
  · go_simp
    have hbwx12 : Below wd.heap.size wd (wd.alloc (.cells #[] 5)) := (Below.refl _ _).alloc (Nat.le_refl _) _
    have HBwx12 := hid (HBwd.out.trans (hbwx12.mono HBwd.out.size))
    refine hK.out _ _ (HUN.out _ _ HBwx12.out) (fun HU => ?_)
    clear hK K HU
    try simp only [Act.put, List.setIfInBounds_toArray, List.set_cons_zero, List.set_cons_succ]
    have H38wx12 := hid (World.ownsRow_made wd (e := 5) (size := 1) #[] 0 (base := w2.heap.size) HBwd.out.size (Nat.zero_le _) rfl)
    obtain ⟨wx12, hwx12⟩ : ∃ wx12, wx12 = wd.alloc (.cells #[] 5) := ⟨_, rfl⟩
    rw [← hwx12] at HBwx12 hbwx12 H38wx12
    rw [← hwx12]
    clear hwx12 hbwx12
    obtain ⟨g38, hg38⟩ : ∃ g, g = wd.heap.size := ⟨_, rfl⟩
    rw [← hg38] at H38wx12
    rw [← hg38]
    clear hg38
    refine Orders.one (i := 1) (by kernel_rfl) rfl (fun K hK => ?_)
    go_simp
    have hbwx13 : Below wx12.heap.size wx12 (wx12.alloc (.cells #[] 50)) := (Below.refl _ _).alloc (Nat.le_refl _) _
    have HBwx13 := hid (HBwx12.out.trans (hbwx13.mono HBwx12.out.size))
    refine hK.out _ _ (HUN.out _ _ HBwx13.out) (fun HU => ?_)
    clear hK K HU
    try simp only [Act.put, List.setIfInBounds_toArray, List.set_cons_zero, List.set_cons_succ]
    have H38wx13 := hid (owns_below H38wx12.out hbwx13)
    have H26wx13 := hid (World.ownsRow_made wx12 (e := 50) (size := 3) #[] 0 (base := w2.heap.size) HBwx12.out.size (Nat.zero_le _) rfl)
    obtain ⟨wx13, hwx13⟩ : ∃ wx13, wx13 = wx12.alloc (.cells #[] 50) := ⟨_, rfl⟩
    rw [← hwx13] at HBwx13 hbwx13 H38wx13 H26wx13
    rw [← hwx13]
    clear hwx13 hbwx13
    obtain ⟨g26, hg26⟩ : ∃ g, g = wx12.heap.size := ⟨_, rfl⟩
    rw [← hg26] at H26wx13
    rw [← hg26]
    clear hg26
    refine Orders.one (i := 6) (by kernel_rfl) rfl (fun K hK => ?_)
    refine appsst (by rfl) 51 50 (.tmp 26) (.tmp 30) rfl w2.heap.size 3 40 _ Try.underlying51 infoRF rfl (by decide) (.slice (some ⟨g26, 0, none⟩) 0 0) (.slice fa s.l.length fc) 0 s.l.length s.l.length [] (PF.flatMap fcells) rfl rfl H26wx13.out (SrcC.of_own (owns_below HROW.out HBwx13.out)) HXL.out HONE.out (by omega) (by omega) (by omega) HBwx13.out.size ?_
    intro ad1 cp1 wx14 ho hg
    have hk := own_grown9 H26wx13.out hg HBwx13.out.size
    have HBwx14 := hid (HBwx13.out.trans hk.below)
    refine hK.out _ _ (HUN.out _ _ HBwx14.out) (fun HU => ?_)
    clear hK K HU
    rw [List.nil_append] at ho
    have H31wx14 := hid ho
    have H38wx14 := hid (owns_kt H38wx13.out hk (by decide))
    clear ho hg hk
    try simp only [Act.put, List.setIfInBounds_toArray, List.set_cons_zero, List.set_cons_succ]
    refine Orders.one (i := 16) (by kernel_rfl) rfl (fun K hK => ?_)
    refine appst (by rfl) (.tmp 38) (.tmp 40) rfl w2.heap.size (.slice (some ⟨g38, 0, none⟩) 0 0) (.slice oa t.length oc) [] t t t.length rfl rfl H38wx14.out (HRD.out.below HBwx14.out) (by simp) rfl (by simp; omega) HBwx14.out.size ?_
    intro adB cpB wx15 ho hg
    have hk := own_grown9 H38wx14.out hg HBwx14.out.size
    have HBwx15 := hid (HBwx14.out.trans hk.below)
    refine hK.out _ _ (HUN.out _ _ HBwx15.out) (fun HU => ?_)
    clear hK K HU
    have H41wx15 := hid ho
    have H31wx15 := hid (owns_kt H31wx14.out hk (by decide))
    clear ho hg hk
    try simp only [Act.put, List.setIfInBounds_toArray, List.set_cons_zero, List.set_cons_succ]
    refine Orders.take (fun _ => True) [] (i := 17) (v := ?_) rfl (by kernel_rfl) (by kernel_rfl) (by kernel_rfl) (fun _ _ _ h => h) (by kernel_rfl) (fun _ _ _ _ => trivial) (by kernel_rfl) (by kernel_rfl) (Or.inl ⟨by rfl, ?_⟩) (HUN.out _ _ HBwx15.out) (fun HU => ?_)
    rotate_left
    · intro u hSw
      try dsimp only at hSw
      go_simp
      try (with_reducible rfl)
    clear HU
    try simp only [Act.put, List.setIfInBounds_toArray, List.set_cons_zero, List.set_cons_succ]
    refine Orders.take (fun _ => True) [] (i := 18) (v := ?_) rfl (by kernel_rfl) (by kernel_rfl) (by kernel_rfl) (fun _ _ _ h => h) (by kernel_rfl) (fun _ _ _ _ => trivial) (by kernel_rfl) (by kernel_rfl) (Or.inl ⟨by rfl, ?_⟩) (HUN.out _ _ HBwx15.out) (fun HU => ?_)
    rotate_left
    · intro u hSw
      try dsimp only at hSw
      go_simp
      try (with_reducible rfl)
    clear HU
    try simp only [Act.put, List.setIfInBounds_toArray, List.set_cons_zero, List.set_cons_succ]
    refine Orders.one (i := 19) (by kernel_rfl) rfl (fun K hK => ?_)
    go_simp
    have hbwx16 : Below wx15.heap.size wx15 (wx15.alloc (.cells #[.int .u64 ((s.last : Int) + 1), .int .i64 to, .slice adB t.length cpB] 50)) := (Below.refl _ _).alloc (Nat.le_refl _) _
    have HBwx16 := hid (HBwx15.out.trans (hbwx16.mono HBwx15.out.size))
    refine hK.out _ _ (HUN.out _ _ HBwx16.out) (fun HU => ?_)
    clear hK K HU
    try simp only [Act.put, List.setIfInBounds_toArray, List.set_cons_zero, List.set_cons_succ]
    have H31wx16 := hid (owns_below H31wx15.out hbwx16)
    have H41wx16 := hid (owns_below H41wx15.out hbwx16)
    have H44wx16 := hid (SrcC.lit wx15 #[.int .u64 ((s.last : Int) + 1), .int .i64 to, .slice adB t.length cpB] 50 1 _ rfl)
    obtain ⟨wx16, hwx16⟩ : ∃ wx16, wx16 = wx15.alloc (.cells #[.int .u64 ((s.last : Int) + 1), .int .i64 to, .slice adB t.length cpB] 50) := ⟨_, rfl⟩
    rw [← hwx16] at HBwx16 hbwx16 H31wx16 H41wx16 H44wx16
    rw [← hwx16]
    clear hwx16 hbwx16
    obtain ⟨g44, hg44⟩ : ∃ g, g = wx15.heap.size := ⟨_, rfl⟩
    rw [← hg44] at H44wx16
    rw [← hg44]
    clear hg44
    refine Orders.one (i := 20) (by kernel_rfl) rfl (fun K hK => ?_)
    refine appsst (by rfl) 51 50 (.tmp 31) (.tmp 44) rfl w2.heap.size 3 40 _ Try.underlying51 infoRF rfl (by decide) (.slice ad1 s.l.length cp1) (.slice (some ⟨g44, 0, none⟩) 1 1) s.l.length 1 (s.l.length + 1) (PF.flatMap fcells) _ rfl rfl H31wx16.out H44wx16.out rfl (by simp [Value.oneCell']) rfl (by omega) (by omega) HBwx16.out.size ?_
    intro ad2 cp2 wx17 ho hg
    have hk := own_grown9 H31wx16.out hg HBwx16.out.size
    have HBwx17 := hid (HBwx16.out.trans hk.below)
    refine hK.out _ _ (HUN.out _ _ HBwx17.out) (fun HU => ?_)
    clear hK K HU
    have H45wx17 := hid ho
    have H41wx17 := hid (owns_kt H41wx16.out hk (by decide))
    clear ho hg hk
    try simp only [Act.put, List.setIfInBounds_toArray, List.set_cons_zero, List.set_cons_succ]
    obtain ⟨q1, q2⟩ := HFIN.out _ _ _ _ _ HBwx17.out H41wx17.out H45wx17.out
    have HQ1 := hid q1
    have HQ2 := hid q2
    have hdwx17 := (HBwx17.out.block b hbs).trans HHD.out
    have y2 : wx17.cell? ⟨b, 2, none⟩ = some (.slice fa s.l.length fc) := (cell_of_row _ _ _ _ _ _ hdwx17).trans rfl
    have z2 : wx17.frozen? ⟨b, 2, none⟩ = false := frozen_of_row _ _ _ _ _ hdwx17
    clear q1 q2 hdwx17
    refine Orders.take (fun _ => True) [] (i := 21) (v := ?_) rfl (by kernel_rfl) (by kernel_rfl) (by kernel_rfl) (fun _ _ _ h => h) (by kernel_rfl) (fun _ _ _ _ => trivial) (by kernel_rfl) (by kernel_rfl) (Or.inl ⟨by rfl, ?_⟩) (HUN.out _ _ HBwx17.out) (fun HU => ?_)
    rotate_left
    · intro u hSw
      try dsimp only at hSw
      go_simp
      try (with_reducible rfl)
    clear HU
    try simp only [Act.put, List.setIfInBounds_toArray, List.set_cons_zero, List.set_cons_succ]
    refine Orders.take (fun _ => True) [] (i := 22) (v := ?_) rfl (by kernel_rfl) (by kernel_rfl) (by kernel_rfl) (fun _ _ _ h => h) (by kernel_rfl) (fun _ _ _ _ => trivial) (by kernel_rfl) (by kernel_rfl) (Or.inl ⟨by rfl, ?_⟩) (HUN.out _ _ HBwx17.out) (fun HU => ?_)
    rotate_left
    · intro u hSw
      try dsimp only at hSw
      go_simp
      try (with_reducible rfl)
    clear HU
    try simp only [Act.put, List.setIfInBounds_toArray, List.set_cons_zero, List.set_cons_succ]
    refine Orders.one (i := 23) (by kernel_rfl) rfl (fun K hK => ?_)
    go_simp
    refine hK.out _ _ ?_ (fun HU => ?_)
    · intro c hc hl
      simp only [List.mem_cons, List.not_mem_nil, or_false] at hc
      rcases hc with rfl | rfl | rfl | rfl <;> exact absurd hl (fun h => Bool.noConfusion (h.symm.trans (by kernel_rfl : _ = true)))
    clear hK K HU
    try simp only [Act.put, List.setIfInBounds_toArray, List.set_cons_zero, List.set_cons_succ]
    refine Orders.ends (by kernel_rfl) ?_ _
    have y1 : (wx17.setCell ⟨b, 2, none⟩ (.slice ad2 (s.l.length + 1) cp2)).cell? ⟨b, 1, none⟩ = some (.int .u64 ((s.last : Int) + 1)) := (cell_of_row _ _ _ _ _ _ HQ1.out.head).trans rfl
    go_wp2_with fail
    go_ret2
    exact ⟨rfl, ⟨_, _, HQ1.out⟩, HQ2.out⟩

end Go.Proofs.Ytecnopopmonlpaa
