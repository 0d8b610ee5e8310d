/-
  Layer 10: the document's Hear, of what is new; whole.
-/
import Derived.Test.YtjpojlkdogaalaaRtQ
namespace Go.Proofs.Ytjpojlkdogaalaa
open Go.RowKit
set_option linter.unusedVariables false
set_option linter.unusedSimpArgs false

set_option maxRecDepth 100000 in
set_option maxHeartbeats 8000000 in
theorem refhear_new (base : B9) (b : Nat) (s : Tk) (k : Pk) (va : Option Addr) (vc : Nat) (w : World) (h : RtAt w base b s) (hb : base.n ≤ w.heap.size) (hv : Far w base.n (.slice va k.data.length vc) k.data) (hkl : k.data.length ≤ 1000000) (hka : k.ack < 4294967296) (hm : s.mine k = true) (hn : k.seq = s.heard + 1) (hh1 : s.heard < 1000000) :
    Calls Try.prog 22 #[.pointer (some ⟨b, 0, none⟩), .agg #[.int .u8 k.node, .int .u32 k.epoch, .int .u32 k.life, .int .u32 (k.seq : Int), .int .u32 (k.ack : Int), .bool k.plain, .slice va k.data.length vc]] w fun e w' => ∃ xa xc, e = .returned (.tuple #[.slice xa k.data.length xc, .bool true, .agg #[.int .u8 s.node, .int .u32 s.epoch, .int .u32 s.life, .int .u32 0, .int .u32 ((s.heard : Int) + 1), .bool false, .slice none 0 0], .bool true]) ∧ Own w' w.heap.size (.slice xa k.data.length xc) k.data ∧ RtAt w' base b { s.settle k.ack with heard := s.heard + 1 } ∧ KT refTs base.n w w' := by
  obtain ⟨w1, hw1⟩ : ∃ w1, w1 = w.alloc (.cells #[.int .u8 k.node, .int .u32 k.epoch, .int .u32 k.life, .int .u32 (k.seq : Int), .int .u32 (k.ack : Int), .bool k.plain, .slice va k.data.length vc] 31) := ⟨_, rfl⟩
  obtain ⟨g1, hb1, _⟩ := box_facts _ _ _ _ _ _ _ _ w1 hw1
  obtain ⟨w2, hw2⟩ : ∃ w2, w2 = w1.alloc (.cells #[.int .u8 0, .int .u32 0, .int .u32 0, .int .u32 0, .int .u32 0, .bool false, .slice none 0 0] 31) := ⟨_, rfl⟩
  obtain ⟨g2, hb2, _⟩ := box_facts _ _ _ _ _ _ _ _ w2 hw2
  have hs1 : w1.heap.size = w.heap.size + 1 := by rw [hw1]; simp
  have hs2 : w2.heap.size = w.heap.size + 2 := by rw [hw2]; simp [hs1]
  rw [hs1] at g2
  have HG1 := hid ((hb2.block _ (by omega)).trans g1)
  have HG2 := hid (show PkB w2 (w.heap.size + 1) from ⟨_, _, _, _, _, _, _, g2⟩)
  have HB2 := hid (hb1.trans (hb2.mono (by omega)))
  have HW1 := hid hw1
  have HW2 := hid hw2
  have HS2 := hid hs2
  clear g1 g2 hb1 hb2 hw1 hw2 hs1 hs2
  have H2 := hid (h.below HB2.out)
  have HM := hid hm
  have HAK := hid (Tk.mine_ack hm)
  have HKA := hid hka
  have HV := hid hv
  have HH1 := hid hh1
  have HKL := hid hkl
  have e0 : ((k.seq : Int) == 0) = false := by rw [beq_eq_false_iff_ne]; omega
  have HE1 := hid (show ((k.seq : Int) == (s.heard : Int) + 1) = true by rw [beq_iff_eq]; omega)
  have HSQ := hid (show IntKind.u64.wrap (k.seq : Int) = (k.seq : Int) by rw [IntKind.wrap_u64]; omega)
  have HSH := hid (show IntKind.u64.wrap (s.heard : Int) = (s.heard : Int) by rw [IntKind.wrap_u64]; omega)
  have HSI := hid (show IntKind.u64.wrap ((s.heard : Int) + 1) = (s.heard : Int) + 1 by rw [IntKind.wrap_u64]; omega)
  have HS5 := hid (show IntKind.u32.wrap ((s.heard : Int) + 1) = (s.heard : Int) + 1 by rw [IntKind.wrap_u32]; omega)
  clear h hm hka hv hn hh1 hkl
  go_enter Try.func22, Try.ntmps22
  go_upto_region 1 with (fail)
  rw [← HW1.out, ← HW2.out]
  go_wp2_with (first | (refine pk_ld rfl (.tmp 3) rfl w.heap.size rfl _ _ _ _ _ _ _ HG1.out ?_) | fail)
  refine (refmine_any base b s k va _ vc w2 H2.out HKA.out).mono ?_
  rintro e w3 ⟨rfl, hb3⟩
  rw [HM.out]
  have H3 := hid (H2.out.below hb3)
  have HB3 := hid (HB2.out.trans (hb3.mono (by have := HS2.out; omega)))
  have HP3 := hid (HG2.out.below hb3)
  have HS3 := hid (show w.heap.size + 2 ≤ w3.heap.size by have := hb3.size; have := HS2.out; omega)
  have HG3 := hid ((hb3.block _ (by have := HS2.out; omega)).trans HG1.out)
  clear hb3
  obtain ⟨sv, tv, PF, hh3⟩ := H3.out
  obtain ⟨wd, hwd⟩ : ∃ wd, wd = w3.drew := ⟨_, rfl⟩
  have HBd := hid (show Below w3.heap.size w3 wd by rw [hwd]; exact below_dr (Below.refl _ _))
  have HHd := hid (hh3.below HBd.out)
  have HGd := hid (show wd.heap[w.heap.size]? = _ from (HBd.out.block w.heap.size (by have := HS3.out; omega)).trans HG3.out)
  have HPd := hid (HP3.out.below HBd.out)
  have HU1 := hid (show wd.cell? ⟨b, 6, none⟩ = some (.int .i64 (s.done : Int)) from HHd.out.cells.2.2.2.2.2.2.1)
  have HU2 := hid (show wd.cell? ⟨w.heap.size, 4, none⟩ = some (.int .u32 (k.ack : Int)) from (cell_of_row _ _ _ _ _ _ HGd.out).trans rfl)
  have HUN := hid (show ∀ (L : Array Bool), wd.cell? ⟨b, 6, none⟩ = some (.int .i64 (s.done : Int)) → wd.cell? ⟨w.heap.size, 4, none⟩ = some (.int .u32 (k.ack : Int)) → UntilAll [(11, (fun w' => w'.cell? ⟨b, 6, none⟩ = some (.int .i64 (s.done : Int)))), (11, (fun w' => w'.cell? ⟨w.heap.size, 4, none⟩ = some (.int .u32 (k.ack : Int))))] L wd from by
    intro L h1 h2 c hc _
    simp only [List.mem_cons, List.not_mem_nil, or_false] at hc
    rcases hc with rfl | rfl
    · exact h1
    · exact h2)
  obtain ⟨mx, hmx⟩ : ∃ mx, mx = max s.done k.ack := ⟨_, rfl⟩
  have HMX := hid (show ((k.ack : Int) = (mx : Int) ∧ s.done < k.ack) ∨ ((s.done : Int) = (mx : Int) ∧ ¬ s.done < k.ack) by omega)
  have HMQ := hid hmx
  have HWA := hid (show IntKind.i64.wrap (k.ack : Int) = (k.ack : Int) by have := HKA.out; rw [IntKind.wrap_i64]; omega)
  have c6 : wd.cell? ⟨b, 6, none⟩ = some (.int .i64 (s.done : Int)) := HU1.out
  have f6 : wd.frozen? ⟨b, 6, none⟩ = false := HHd.out.cells.2.2.2.2.2.2.2.2 6
  clear hh3 hmx
  go_wp2_with fail
  refine Orders.begins (C := [(11, (fun w' => w'.cell? ⟨b, 6, none⟩ = some (.int .i64 (s.done : Int)))), (11, (fun w' => w'.cell? ⟨w.heap.size, 4, none⟩ = some (.int .u32 (k.ack : Int))))]) (by kernel_rfl) ?_
  rw [← hwd]
  clear hwd
  refine Orders.take (fun _ => True) [] (i := 0) (v := ?_) rfl (by kernel_rfl) (by kernel_rfl) (by kernel_rfl) (fun _ _ _ h => h) (by kernel_rfl) (fun _ _ _ _ => trivial) (by kernel_rfl) (by kernel_rfl) (Or.inl ⟨by rfl, ?_⟩) (HUN.out _ HU1.out HU2.out) (fun HU => ?_)
  rotate_left
  · intro u hSw
    try dsimp only at hSw
    go_simp
    try (with_reducible rfl)
  clear HU
  try simp only [Act.put, List.getElem_toArray, List.getElem_cons_succ, List.getElem_cons_zero, List.setIfInBounds_toArray, List.set_cons_zero, List.set_cons_succ]
  refine Orders.take (fun _ => True) [] (i := 1) (v := ?_) rfl (by kernel_rfl) (by kernel_rfl) (by kernel_rfl) (fun _ _ _ h => h) (by kernel_rfl) (fun _ _ _ _ => trivial) (by kernel_rfl) (by kernel_rfl) (Or.inl ⟨by rfl, ?_⟩) (HUN.out _ HU1.out HU2.out) (fun HU => ?_)
  rotate_left
  · intro u hSw
    try dsimp only at hSw
    go_simp
    try (with_reducible rfl)
  clear HU
  try simp only [Act.put, List.getElem_toArray, List.getElem_cons_succ, List.getElem_cons_zero, List.setIfInBounds_toArray, List.set_cons_zero, List.set_cons_succ]
  refine Orders.take (fun _ => True) [] (i := 2) (v := ?_) rfl (by kernel_rfl) (by kernel_rfl) (by kernel_rfl) (fun _ _ _ h => h) (by kernel_rfl) (fun _ _ _ _ => trivial) (by kernel_rfl) (by kernel_rfl) (Or.inl ⟨by rfl, ?_⟩) (HUN.out _ HU1.out HU2.out) (fun HU => ?_)
  rotate_left
  · intro u hSw
    try dsimp only at hSw
    go_simp
    try (with_reducible rfl)
  clear HU
  try simp only [Act.put, List.getElem_toArray, List.getElem_cons_succ, List.getElem_cons_zero, List.setIfInBounds_toArray, List.set_cons_zero, List.set_cons_succ]
  refine Orders.take (fun _ => True) [] (i := 3) (v := ?_) rfl (by kernel_rfl) (by kernel_rfl) (by kernel_rfl) (fun _ _ _ h => h) (by kernel_rfl) (fun _ _ _ _ => trivial) (by kernel_rfl) (by kernel_rfl) (Or.inl ⟨by rfl, ?_⟩) (HUN.out _ HU1.out HU2.out) (fun HU => ?_)
  rotate_left
  · intro u hSw
    try dsimp only at hSw
    go_simp
    try (with_reducible rfl)
  clear HU
  try simp only [Act.put, List.getElem_toArray, List.getElem_cons_succ, List.getElem_cons_zero, List.setIfInBounds_toArray, List.set_cons_zero, List.set_cons_succ]
  refine Orders.take (fun w' => w'.cell? ⟨b, 6, none⟩ = some (.int .i64 (s.done : Int))) [11] (i := 4) (v := ?_) rfl (by kernel_rfl) (by kernel_rfl) (by kernel_rfl) (fun _ _ _ h => h) (by kernel_rfl) (fun L u hd h => h (11, (fun w' => w'.cell? ⟨b, 6, none⟩ = some (.int .i64 (s.done : Int)))) (by simp) (hd 11 (by simp))) (by kernel_rfl) (by kernel_rfl) (Or.inl ⟨by rfl, ?_⟩) (HUN.out _ HU1.out HU2.out) (fun HU => ?_)
  rotate_left
  · intro u hSw
    try dsimp only at hSw
    go_simp
    try (with_reducible rfl)
  clear HU
  try simp only [Act.put, List.getElem_toArray, List.getElem_cons_succ, List.getElem_cons_zero, List.setIfInBounds_toArray, List.set_cons_zero, List.set_cons_succ]
  refine Orders.take (fun _ => True) [] (i := 5) (v := ?_) rfl (by kernel_rfl) (by kernel_rfl) (by kernel_rfl) (fun _ _ _ h => h) (by kernel_rfl) (fun _ _ _ _ => trivial) (by kernel_rfl) (by kernel_rfl) (Or.inl ⟨by rfl, ?_⟩) (HUN.out _ HU1.out HU2.out) (fun HU => ?_)
  rotate_left
  · intro u hSw
    try dsimp only at hSw
    go_simp
    try (with_reducible rfl)
  clear HU
  try simp only [Act.put, List.getElem_toArray, List.getElem_cons_succ, List.getElem_cons_zero, List.setIfInBounds_toArray, List.set_cons_zero, List.set_cons_succ]
  refine Orders.take (fun w' => w'.cell? ⟨w.heap.size, 4, none⟩ = some (.int .u32 (k.ack : Int))) [11] (i := 6) (v := ?_) rfl (by kernel_rfl) (by kernel_rfl) (by kernel_rfl) (fun _ _ _ h => h) (by kernel_rfl) (fun L u hd h => h (11, (fun w' => w'.cell? ⟨w.heap.size, 4, none⟩ = some (.int .u32 (k.ack : Int)))) (by simp) (hd 11 (by simp))) (by kernel_rfl) (by kernel_rfl) (Or.inl ⟨by rfl, ?_⟩) (HUN.out _ HU1.out HU2.out) (fun HU => ?_)
  rotate_left
  · intro u hSw
    try dsimp only at hSw
    go_simp
    try (with_reducible rfl)
  clear HU
  try simp only [Act.put, List.getElem_toArray, List.getElem_cons_succ, List.getElem_cons_zero, List.setIfInBounds_toArray, List.set_cons_zero, List.set_cons_succ]
  refine Orders.take (fun _ => True) [] (i := 7) (v := ?_) rfl (by kernel_rfl) (by kernel_rfl) (by kernel_rfl) (fun _ _ _ h => h) (by kernel_rfl) (fun _ _ _ _ => trivial) (by kernel_rfl) (by kernel_rfl) (Or.inl ⟨by rfl, ?_⟩) (HUN.out _ HU1.out HU2.out) (fun HU => ?_)
  rotate_left
  · intro u hSw
    try dsimp only at hSw
    try rw [HWA.out]
    go_simp
    try (with_reducible rfl)
  clear HU
  try simp only [Act.put, List.getElem_toArray, List.getElem_cons_succ, List.getElem_cons_zero, List.setIfInBounds_toArray, List.set_cons_zero, List.set_cons_succ]
  refine Orders.take (fun _ => True) [] (i := 8) (v := .int .i64 (mx : Int)) rfl (by kernel_rfl) (by kernel_rfl) (by kernel_rfl) (fun _ _ _ h => h) (by kernel_rfl) (fun _ _ _ _ => trivial) (by kernel_rfl) (by kernel_rfl) (Or.inl ⟨by rfl, ?_⟩) (HUN.out _ HU1.out HU2.out) (fun HU => ?_)
  · intro u hSw
    try dsimp only at hSw
    go_simp
    rw [HWA.out]
    have := HMX.out
    split <;> omega
  clear HU
  try simp only [Act.put, List.getElem_toArray, List.getElem_cons_succ, List.getElem_cons_zero, List.setIfInBounds_toArray, List.set_cons_zero, List.set_cons_succ]
  refine Orders.take (fun _ => True) [] (i := 9) (v := ?_) rfl (by kernel_rfl) (by kernel_rfl) (by kernel_rfl) (fun _ _ _ h => h) (by kernel_rfl) (fun _ _ _ _ => trivial) (by kernel_rfl) (by kernel_rfl) (Or.inl ⟨by rfl, ?_⟩) (HUN.out _ HU1.out HU2.out) (fun HU => ?_)
  rotate_left
  · intro u hSw
    try dsimp only at hSw
    go_simp
    try (with_reducible rfl)
  clear HU
  try simp only [Act.put, List.getElem_toArray, List.getElem_cons_succ, List.getElem_cons_zero, List.setIfInBounds_toArray, List.set_cons_zero, List.set_cons_succ]
  refine Orders.take (fun _ => True) [] (i := 10) (v := ?_) rfl (by kernel_rfl) (by kernel_rfl) (by kernel_rfl) (fun _ _ _ h => h) (by kernel_rfl) (fun _ _ _ _ => trivial) (by kernel_rfl) (by kernel_rfl) (Or.inl ⟨by rfl, ?_⟩) (HUN.out _ HU1.out HU2.out) (fun HU => ?_)
  rotate_left
  · intro u hSw
    try dsimp only at hSw
    go_simp
    try (with_reducible rfl)
  clear HU
  try simp only [Act.put, List.getElem_toArray, List.getElem_cons_succ, List.getElem_cons_zero, List.setIfInBounds_toArray, List.set_cons_zero, List.set_cons_succ]
  refine Orders.one (i := 11) (by kernel_rfl) rfl (fun K hK => ?_)
  go_simp
  refine hK.out _ _ ?_ (fun HU => ?_)
  · intro c hc hl
    simp only [List.mem_cons, List.not_mem_nil, or_false] at hc
    rcases hc with rfl | rfl <;> exact absurd hl (fun h => Bool.noConfusion (h.symm.trans (by kernel_rfl : _ = true)))
  clear hK K HU
  try simp only [Act.put, List.getElem_toArray, List.getElem_cons_succ, List.getElem_cons_zero, List.setIfInBounds_toArray, List.set_cons_zero, List.set_cons_succ]
  refine Orders.ends (by kernel_rfl) ?_ _
  obtain ⟨w4, hw4⟩ : ∃ w4, w4 = wd.setCell ⟨b, 6, none⟩ (.int .i64 (mx : Int)) := ⟨_, rfl⟩
  rw [← hw4]
  have hk4 : Keeps (fun q => q = b) wd w4 := by rw [hw4]; exact kset _ _ _ _
  have HX4 := hid (show RtV w4 base b (s.settle k.ack) sv tv PF from HHd.out.head' hk4 (by rw [hw4, heap_setCell_same _ _ _ _ _ _ HHd.out.head]; simp [Tk.settle, HMQ.out]) rfl (Tk.ok_settle HHd.out.ok _ HAK.out))
  have hbn : b ≠ w.heap.size := by
    intro e
    have := HHd.out.head
    rw [e, HGd.out] at this
    simp only [Option.some.injEq, Obj.cells.injEq] at this
    exact absurd this.2.1 (by decide)
  have hbn2 : b ≠ w.heap.size + 1 := by
    intro e
    obtain ⟨q0, q1, q2, q3, q4, q5, q6, e7⟩ := HPd.out
    have := HHd.out.head
    rw [e, e7] at this
    simp only [Option.some.injEq, Obj.cells.injEq] at this
    exact absurd this.2.1 (by decide)
  have hsd := HBd.out.size
  have HG4 := hid ((hk4.block w.heap.size (by have := HS3.out; omega) (fun e => hbn e.symm)).trans HGd.out)
  have HP4 := hid (HPd.out.of (hk4.block (w.heap.size + 1) (by have := HS3.out; omega) (fun e => hbn2 e.symm)))
  have HK4 := hid (show KT refTs base.n w w4 from (KT.of_below (HB3.out.trans (HBd.out.mono (by have := HS3.out; omega))) hb).trans (HHd.out.ktS hk4 (fun q _ e => .inl e) (by have := HS3.out; omega)))
  have HS4 := hid (show w.heap.size + 2 ≤ w4.heap.size by have := HS3.out; have := hk4.size; omega)
  clear hw4 hk4 hbn hbn2 hsd c6 f6
  have y3 : w4.cell? ⟨w.heap.size, 3, none⟩ = some (.int .u32 (k.seq : Int)) := (cell_of_row _ _ _ _ _ _ HG4.out).trans rfl
  have d7 : w4.cell? ⟨b, 7, none⟩ = some (.int .u32 (s.heard : Int)) := HX4.out.cells.2.2.2.2.2.2.2.1
  go_wp2_with fail
  have e1 := HE1.out
  have e2 := HSQ.out
  have e3 := HSH.out
  have e4 := HSI.out
  go_quiet (fail)
  clear e1 e2 e3 e4
  obtain ⟨wq, hwq⟩ : ∃ wq, wq = w4.drewN nq := ⟨_, rfl⟩
  rw [← hwq]
  have HBq := hid (show Below w4.heap.size w4 wq by rw [hwq]; exact below_behind (Below.refl _ _) _)
  have HXq := hid (HX4.out.below HBq.out)
  have HPq := hid (HP4.out.below HBq.out)
  have HKq := hid (show KT refTs base.n w wq from HK4.out.trans (KT.of_below HBq.out (by have := HS4.out; omega)))
  have HSq := hid (show w.heap.size + 2 ≤ wq.heap.size by have := HS4.out; have := HBq.out.size; omega)
  have HGq := hid ((HBq.out.block w.heap.size (by have := HS4.out; omega)).trans HG4.out)
  clear hwq y3 d7
  have c7 : wq.cell? ⟨b, 7, none⟩ = some (.int .u32 (s.heard : Int)) := HXq.out.cells.2.2.2.2.2.2.2.1
  have f7 : wq.frozen? ⟨b, 7, none⟩ = false := HXq.out.cells.2.2.2.2.2.2.2.2 7
  have e5 := HS5.out
  go_upto_region 10 with (fail)
  clear e5
  try rw [HS5.out]
  obtain ⟨w5, hw5⟩ : ∃ w5, w5 = wq.setCell ⟨b, 7, none⟩ (.int .u32 ((s.heard : Int) + 1)) := ⟨_, rfl⟩
  rw [← hw5]
  have hk5 : Keeps (fun q => q = b) wq w5 := by rw [hw5]; exact kset _ _ _ _
  have HX5 := hid (show RtV w5 base b { s.settle k.ack with heard := s.heard + 1 } sv tv PF from HXq.out.head' hk5 (by rw [hw5, heap_setCell_same _ _ _ _ _ _ HXq.out.head]; simp [Tk.settle]) rfl (by have ho := HXq.out.ok; exact ⟨ho.1, ho.2.1, ho.2.2.1, HH1.out, ho.2.2.2.2.1, ho.2.2.2.2.2⟩))
  have hbn : b ≠ w.heap.size := by
    intro e
    have := HXq.out.head
    rw [e, HGq.out] at this
    simp only [Option.some.injEq, Obj.cells.injEq] at this
    exact absurd this.2.1 (by decide)
  have hbn2 : b ≠ w.heap.size + 1 := by
    intro e
    obtain ⟨q0, q1, q2, q3, q4, q5, q6, e7⟩ := HPq.out
    have := HXq.out.head
    rw [e, e7] at this
    simp only [Option.some.injEq, Obj.cells.injEq] at this
    exact absurd this.2.1 (by decide)
  have HG5 := hid ((hk5.block w.heap.size (by have := HSq.out; omega) (fun e => hbn e.symm)).trans HGq.out)
  have HP5 := hid (HPq.out.of (hk5.block (w.heap.size + 1) (by have := HSq.out; omega) (fun e => hbn2 e.symm)))
  have HK5 := hid (show KT refTs base.n w w5 from HKq.out.trans (HXq.out.ktS hk5 (fun q _ e => .inl e) (by have := HSq.out; omega)))
  have HZ5 := hid (show w.heap.size + 2 ≤ w5.heap.size by have := HSq.out; have := hk5.size; omega)
  clear hw5 hk5 hbn hbn2 c7 f7
  have y6 : w5.cell? ⟨w.heap.size, 6, none⟩ = some (.slice va k.data.length vc) := (cell_of_row _ _ _ _ _ _ HG5.out).trans rfl
  have hAl : Below w5.heap.size w5 (w5.alloc (.cells #[] 5)) := (Below.refl _ _).alloc (Nat.le_refl _) _
  have z6 := (hAl.cell (p := ⟨w.heap.size, 6, none⟩) (show w.heap.size < w5.heap.size by have := HZ5.out; omega)).trans y6
  have HE := hid (Own.empty w5 w5.heap.size (Nat.le_refl _))
  have HRE := hid (((HV.out.kt HK5.out (by decide)).1).alloc (.cells #[] 5))
  have HAPP := hid (show ∀ w6, (w5.alloc (.cells #[] 5)).grownBy w6 (Value.slice (some ⟨w5.heap.size, 0, none⟩) 0 0).ownBlock → Below w5.heap.size w5 w6 from fun w6 hg => ((Below.refl _ _).alloc (Nat.le_refl _) _).grown hg (by simp) (fun k hk => by have := (HE.out.lt k hk).1; omega))
  clear hAl
  go_wp2_with (first
    | (at_builtin; (refine appk rfl (.tmp 50) (.tmp 52) rfl w5.heap.size (.slice (some ⟨w5.heap.size, 0, none⟩) 0 0) _ [] k.data k.data k.data.length rfl rfl HE.out HRE.out (by simp) rfl (by have := HKL.out; simp; omega) (by simp) ?_); intro xa xc w6 ho hg
       have HO6 := hid ho
       have HB6 := hid (HAPP.out w6 hg)
       have HP6 := hid (HP5.out.below HB6.out)
       clear ho hg z6 y6)
    | (go_at_call 29; refine (refpacket_none base b { s.settle k.ack with heard := s.heard + 1 } w6 ⟨_, _, _, HX5.out.below HB6.out⟩).mono ?_; rintro e w7 ⟨rfl, hb7⟩
       have HB7 := hid hb7
       have HP7 := hid (HP6.out.below hb7)
       clear hb7)
    | (refine pk_st rfl (.tmp 6) (.tmp 55) rfl (w.heap.size + 1) (.int .u8 s.node) (.int .u32 s.epoch) (.int .u32 s.life) (.int .u32 0) (.int .u32 ((s.heard : Int) + 1)) (.bool false) (.slice none 0 0) rfl rfl HP7.out (by simp [Value.oneCell']) ?_)
    | fail)
  have kr := setRow_keeps w7 (w.heap.size + 1) #[.int .u8 s.node, .int .u32 s.epoch, .int .u32 s.life, .int .u32 0, .int .u32 ((s.heard : Int) + 1), .bool false, .slice none 0 0]
  have h5 := HZ5.out
  have h6 := HB6.out.size
  have h7 := HB7.out.size
  refine bodyPost_ret (results_pk4 rfl _ _ _ _ _ (w.heap.size + 1) _ _ _ _ _ _ _ rfl rfl rfl rfl (HP7.out.row _ _ _ _ _ _ _)) rfl ⟨xa, xc, rfl, ?_, ?_, ?_⟩
  · have ho := HO6.out.below HB7.out
    exact (ho.to (fun q hq => kr.block q (ho.lt q hq).2 (by have := (ho.lt q hq).1; omega))).base (fun q hq => by have := (ho.lt q hq).1; omega)
  · exact RtAt.kt (ts := [31]) (b0 := base.n) ⟨_, _, _, (HX5.out.below HB6.out).below HB7.out⟩ (KT.of_keeps kr (fun q _ e => by
      obtain ⟨c0, c1, c2, c3, c4, c5, c6, e7⟩ := HP7.out
      subst e
      exact ⟨by omega, _, _, _, e7, by simp⟩) (by omega)) (by decide) (by decide) (by decide) (by decide)
  · exact ((HK5.out.trans (KT.of_below HB6.out (by omega))).trans (KT.of_below HB7.out (by omega))).new kr (by omega) (by omega) (by omega)

theorem refhear_any (base : B9) (b : Nat) (s : Tk) (k : Pk) (va : Option Addr) (vc : Nat) (w : World) (h : RtAt w base b s) (hb : base.n ≤ w.heap.size) (hv : Far w base.n (.slice va k.data.length vc) k.data) (hkl : k.data.length ≤ 1000000) (hh1 : s.heard < 1000000) (hka : k.ack < 4294967296) (hsq : k.seq < 4294967296) :
    Calls Try.prog 22 #[.pointer (some ⟨b, 0, none⟩), .agg #[.int .u8 k.node, .int .u32 k.epoch, .int .u32 k.life, .int .u32 (k.seq : Int), .int .u32 (k.ack : Int), .bool k.plain, .slice va k.data.length vc]] w fun e w' => ∃ x1 c1 x2 c2, e = .returned (.tuple #[.slice x1 (s.gets k).length c1, .bool (s.fresh k), .agg #[.int .u8 (s.ans k).node, .int .u32 (s.ans k).epoch, .int .u32 (s.ans k).life, .int .u32 ((s.ans k).seq : Int), .int .u32 ((s.ans k).ack : Int), .bool (s.ans k).plain, .slice x2 (s.ans k).data.length c2], .bool (s.resp k)]) ∧ Own w' w.heap.size (.slice x1 (s.gets k).length c1) (s.gets k) ∧ Own w' w.heap.size (.slice x2 (s.ans k).data.length c2) (s.ans k).data ∧ RtAt w' base b (s.hear k) ∧ KT refTs base.n w w' := by
  by_cases hm : s.mine k = false
  · have e1 : s.fresh k = false := by unfold Tk.fresh; rw [hm]; rfl
    have e2 : s.resp k = false := by unfold Tk.resp; rw [hm]; rfl
    have e3 : s.gets k = [] := by unfold Tk.gets; rw [e1]; rfl
    have e4 : s.ans k = Pk.zero := by unfold Tk.ans; rw [e2]; rfl
    have e5 : s.hear k = s := by unfold Tk.hear; rw [if_pos hm]
    rw [e1, e2, e3, e4, e5]
    refine (refhear_not base b s k va vc w h hka hm).mono ?_
    rintro e w' ⟨rfl, hb'⟩
    exact ⟨none, 0, none, 0, rfl, World.ownsRow_nil _ _ _ _, World.ownsRow_nil _ _ _ _, h.below hb', KT.of_below hb' hb⟩
  · have hm' : s.mine k = true := by simpa using hm
    by_cases hz : k.seq = 0
    · have e1 : s.fresh k = false := by unfold Tk.fresh; simp [hz]
      have e2 : s.resp k = false := by unfold Tk.resp; simp [hz]
      have e3 : s.gets k = [] := by unfold Tk.gets; rw [e1]; rfl
      have e4 : s.ans k = Pk.zero := by unfold Tk.ans; rw [e2]; rfl
      have e5 : s.hear k = s.settle k.ack := by unfold Tk.hear; rw [if_neg hm, if_neg (by omega)]
      rw [e1, e2, e3, e4, e5]
      refine (refhear_zero base b s k va vc w h hb hv.1 hkl hka hm' hz).mono ?_
      rintro e w' ⟨rfl, h', k'⟩
      exact ⟨none, 0, none, 0, rfl, World.ownsRow_nil _ _ _ _, World.ownsRow_nil _ _ _ _, h', k'⟩
    · have e2 : s.resp k = true := by unfold Tk.resp; simp [hm', hz]
      by_cases hn : k.seq = s.heard + 1
      · have e1 : s.fresh k = true := by unfold Tk.fresh; simp [hm', hn]
        have e3 : s.gets k = k.data := by unfold Tk.gets; rw [e1]; rfl
        have e5 : s.hear k = { s.settle k.ack with heard := s.heard + 1 } := by unfold Tk.hear; rw [if_neg hm, if_pos hn]
        have e4 : s.ans k = ⟨s.node, s.epoch, s.life, 0, s.heard + 1, false, []⟩ := by unfold Tk.ans; rw [e2, if_pos rfl, e5]; rfl
        rw [e1, e2, e3, e4, e5]
        refine (refhear_new base b s k va vc w h hb hv hkl hka hm' hn hh1).mono ?_
        rintro e w' ⟨x1, c1, rfl, o1, h', k'⟩
        exact ⟨x1, c1, none, 0, rfl, o1, World.ownsRow_nil _ _ _ _, h', k'⟩
      · have e1 : s.fresh k = false := by unfold Tk.fresh; simp [hn]
        have e3 : s.gets k = [] := by unfold Tk.gets; rw [e1]; rfl
        have e5 : s.hear k = s.settle k.ack := by unfold Tk.hear; rw [if_neg hm, if_neg hn]
        have e4 : s.ans k = ⟨s.node, s.epoch, s.life, 0, s.heard, false, []⟩ := by unfold Tk.ans; rw [e2, if_pos rfl, e5]; rfl
        rw [e1, e2, e3, e4, e5]
        refine (refhear_again base b s k va vc w h hb hv.1 hkl hka hm' hz hn hsq).mono ?_
        rintro e w' ⟨rfl, h', k'⟩
        exact ⟨none, 0, none, 0, rfl, World.ownsRow_nil _ _ _ _, World.ownsRow_nil _ _ _ _, h', k'⟩

end Go.Proofs.Ytjpojlkdogaalaa
