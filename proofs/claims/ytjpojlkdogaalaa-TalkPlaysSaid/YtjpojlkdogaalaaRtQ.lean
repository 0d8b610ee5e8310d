/-
  Layer 10: the document's Hear; Say of nil.
-/
import Derived.Test.YtjpojlkdogaalaaRtP
namespace Go.Proofs.Ytjpojlkdogaalaa
open Go.RowKit
set_option linter.unusedVariables false
set_option linter.unusedSimpArgs false

set_option maxHeartbeats 2000000 in
theorem refsay_nil (va : Option Addr) (vn vc : Nat) (w : World) :
    Calls Try.prog 13 #[.pointer none, .slice va vn vc] w fun e w' => e = .returned (.tuple #[.agg #[.int .u8 0, .int .u32 0, .int .u32 0, .int .u32 0, .int .u32 0, .bool false, .slice none 0 0], .int .i64 6]) ∧ Below w.heap.size w w' := by
  obtain ⟨w1, hw1⟩ : ∃ w1, w1 = w.alloc (.cells #[.int .u8 0, .int .u32 0, .int .u32 0, .int .u32 0, .int .u32 0, .bool false, .slice none 0 0] 31) := ⟨_, rfl⟩
  obtain ⟨g1, hb1, _⟩ := box_facts _ _ _ _ _ _ _ _ w1 hw1
  have HG := hid (show PkB (w.alloc (.cells #[.int .u8 0, .int .u32 0, .int .u32 0, .int .u32 0, .int .u32 0, .bool false, .slice none 0 0] 31)) w.heap.size by rw [← hw1]; exact ⟨_, _, _, _, _, _, _, g1⟩)
  have HB := hid hb1
  have HW := hid hw1
  clear g1 hb1 hw1
  go_enter Try.func13, Try.ntmps13
  go_wp2_with (first | (refine pk_st rfl (.tmp 4) (.tmp 8) rfl w.heap.size (.int .u8 0) (.int .u32 0) (.int .u32 0) (.int .u32 0) (.int .u32 0) (.bool false) (.slice none 0 0) rfl rfl HG.out (by simp [Value.oneCell']) ?_) | fail)
  refine bodyPost_ret (results_pk2 rfl _ _ _ w.heap.size _ _ _ _ _ _ _ rfl rfl (HG.out.row _ _ _ _ _ _ _)) rfl ⟨rfl, ?_⟩
  rw [← HW.out]
  exact HB.out.trans ((setRow_below _ (Nat.le_refl _)))

set_option maxHeartbeats 4000000 in
theorem refhear_not (base : B9) (b : Nat) (s : Tk) (k : Pk) (va : Option Addr) (vc : Nat) (w : World) (h : RtAt w base b s) (hka : k.ack < 4294967296) (hm : s.mine k = false) :
    Calls Try.prog 22 #[.pointer (some ⟨b, 0, none⟩), .agg #[.int .u8 k.node, .int .u32 k.epoch, .int .u32 k.life, .int .u32 (k.seq : Int), .int .u32 (k.ack : Int), .bool k.plain, .slice va k.data.length vc]] w fun e w' => e = .returned (.tuple #[.slice none 0 0, .bool false, .agg #[.int .u8 0, .int .u32 0, .int .u32 0, .int .u32 0, .int .u32 0, .bool false, .slice none 0 0], .bool false]) ∧ Below w.heap.size w w' := by
  obtain ⟨w1, hw1⟩ : ∃ w1, w1 = w.alloc (.cells #[.int .u8 k.node, .int .u32 k.epoch, .int .u32 k.life, .int .u32 (k.seq : Int), .int .u32 (k.ack : Int), .bool k.plain, .slice va k.data.length vc] 31) := ⟨_, rfl⟩
  obtain ⟨g1, hb1, _⟩ := box_facts _ _ _ _ _ _ _ _ w1 hw1
  obtain ⟨w2, hw2⟩ : ∃ w2, w2 = w1.alloc (.cells #[.int .u8 0, .int .u32 0, .int .u32 0, .int .u32 0, .int .u32 0, .bool false, .slice none 0 0] 31) := ⟨_, rfl⟩
  obtain ⟨g2, hb2, _⟩ := box_facts _ _ _ _ _ _ _ _ w2 hw2
  have hs1 : w1.heap.size = w.heap.size + 1 := by rw [hw1]; simp
  have hs2 : w2.heap.size = w.heap.size + 2 := by rw [hw2]; simp [hs1]
  rw [hs1] at g2
  have HG1 := hid ((hb2.block _ (by omega)).trans g1)
  have HG2 := hid (show PkB w2 (w.heap.size + 1) from ⟨_, _, _, _, _, _, _, g2⟩)
  have HB2 := hid (hb1.trans (hb2.mono (by omega)))
  have HW1 := hid hw1
  have HW2 := hid hw2
  have HS2 := hid hs2
  clear g1 g2 hb1 hb2 hw1 hw2 hs1 hs2
  have H2 := hid (h.below HB2.out)
  have HM := hid hm
  have HKA := hid hka
  clear h hm hka
  go_enter Try.func22, Try.ntmps22
  go_upto_region 1 with (fail)
  rw [← HW1.out, ← HW2.out]
  go_wp2_with (first | (refine pk_ld rfl (.tmp 3) rfl w.heap.size rfl _ _ _ _ _ _ _ HG1.out ?_) | fail)
  refine (refmine_any base b s k va _ vc w2 H2.out HKA.out).mono ?_
  rintro e w3 ⟨rfl, hb3⟩
  rw [HM.out]
  have H3 := hid (H2.out.below hb3)
  have HB3 := hid (HB2.out.trans (hb3.mono (by have := HS2.out; omega)))
  have HP3 := hid (HG2.out.below hb3)
  have HS3 := hid (show w.heap.size + 2 ≤ w3.heap.size by have := hb3.size; have := HS2.out; omega)
  clear hb3
  go_wp2_with (first | (refine pk_st rfl (.tmp 6) (.tmp 13) rfl (w.heap.size + 1) (.int .u8 0) (.int .u32 0) (.int .u32 0) (.int .u32 0) (.int .u32 0) (.bool false) (.slice none 0 0) rfl rfl HP3.out (by simp [Value.oneCell']) ?_) | fail)
  refine bodyPost_ret (results_pk4 rfl _ _ _ _ _ (w.heap.size + 1) _ _ _ _ _ _ _ rfl rfl rfl rfl (HP3.out.row _ _ _ _ _ _ _)) rfl ⟨rfl, ?_⟩
  exact HB3.out.trans (setRow_below _ (Nat.le_succ _))

set_option maxHeartbeats 4000000 in
theorem refhear_nil (k : Pk) (va : Option Addr) (vc : Nat) (w : World) :
    Calls Try.prog 22 #[.pointer none, .agg #[.int .u8 k.node, .int .u32 k.epoch, .int .u32 k.life, .int .u32 (k.seq : Int), .int .u32 (k.ack : Int), .bool k.plain, .slice va k.data.length vc]] w fun e w' => e = .returned (.tuple #[.slice none 0 0, .bool false, .agg #[.int .u8 0, .int .u32 0, .int .u32 0, .int .u32 0, .int .u32 0, .bool false, .slice none 0 0], .bool false]) ∧ Below w.heap.size w w' := by
  obtain ⟨w1, hw1⟩ : ∃ w1, w1 = w.alloc (.cells #[.int .u8 k.node, .int .u32 k.epoch, .int .u32 k.life, .int .u32 (k.seq : Int), .int .u32 (k.ack : Int), .bool k.plain, .slice va k.data.length vc] 31) := ⟨_, rfl⟩
  obtain ⟨g1, hb1, _⟩ := box_facts _ _ _ _ _ _ _ _ w1 hw1
  obtain ⟨w2, hw2⟩ : ∃ w2, w2 = w1.alloc (.cells #[.int .u8 0, .int .u32 0, .int .u32 0, .int .u32 0, .int .u32 0, .bool false, .slice none 0 0] 31) := ⟨_, rfl⟩
  obtain ⟨g2, hb2, _⟩ := box_facts _ _ _ _ _ _ _ _ w2 hw2
  have hs1 : w1.heap.size = w.heap.size + 1 := by rw [hw1]; simp
  have hs2 : w2.heap.size = w.heap.size + 2 := by rw [hw2]; simp [hs1]
  rw [hs1] at g2
  have HG1 := hid ((hb2.block _ (by omega)).trans g1)
  have HG2 := hid (show PkB w2 (w.heap.size + 1) from ⟨_, _, _, _, _, _, _, g2⟩)
  have HB2 := hid (hb1.trans (hb2.mono (by omega)))
  have HW1 := hid hw1
  have HW2 := hid hw2
  have HS2 := hid hs2
  clear g1 g2 hb1 hb2 hw1 hw2 hs1 hs2
  go_enter Try.func22, Try.ntmps22
  go_upto_region 1 with (fail)
  rw [← HW1.out, ← HW2.out]
  go_wp2_with (first | (refine pk_ld rfl (.tmp 3) rfl w.heap.size rfl _ _ _ _ _ _ _ HG1.out ?_) | fail)
  refine (refmine_nil k va _ vc w2).mono ?_
  rintro e w3 ⟨rfl, hb3⟩
  have HB3 := hid (HB2.out.trans (hb3.mono (by have := HS2.out; omega)))
  have HP3 := hid (HG2.out.below hb3)
  clear hb3
  go_wp2_with (first | (refine pk_st rfl (.tmp 6) (.tmp 13) rfl (w.heap.size + 1) (.int .u8 0) (.int .u32 0) (.int .u32 0) (.int .u32 0) (.int .u32 0) (.bool false) (.slice none 0 0) rfl rfl HP3.out (by simp [Value.oneCell']) ?_) | fail)
  refine bodyPost_ret (results_pk4 rfl _ _ _ _ _ (w.heap.size + 1) _ _ _ _ _ _ _ rfl rfl rfl rfl (HP3.out.row _ _ _ _ _ _ _)) rfl ⟨rfl, ?_⟩
  exact HB3.out.trans (setRow_below _ (Nat.le_succ _))

set_option maxRecDepth 100000 in
set_option maxHeartbeats 8000000 in
theorem refhear_zero (base : B9) (b : Nat) (s : Tk) (k : Pk) (va : Option Addr) (vc : Nat) (w : World) (h : RtAt w base b s) (hb : base.n ≤ w.heap.size) (hv : Rd w (.slice va k.data.length vc) k.data) (hkl : k.data.length ≤ 1000000) (hka : k.ack < 4294967296) (hm : s.mine k = true) (hz : k.seq = 0) :
    Calls Try.prog 22 #[.pointer (some ⟨b, 0, none⟩), .agg #[.int .u8 k.node, .int .u32 k.epoch, .int .u32 k.life, .int .u32 (k.seq : Int), .int .u32 (k.ack : Int), .bool k.plain, .slice va k.data.length vc]] w fun e w' => e = .returned (.tuple #[.slice none 0 0, .bool false, .agg #[.int .u8 0, .int .u32 0, .int .u32 0, .int .u32 0, .int .u32 0, .bool false, .slice none 0 0], .bool false]) ∧ RtAt w' base b (s.settle k.ack) ∧ KT refTs base.n w w' := by
  obtain ⟨w1, hw1⟩ : ∃ w1, w1 = w.alloc (.cells #[.int .u8 k.node, .int .u32 k.epoch, .int .u32 k.life, .int .u32 (k.seq : Int), .int .u32 (k.ack : Int), .bool k.plain, .slice va k.data.length vc] 31) := ⟨_, rfl⟩
  obtain ⟨g1, hb1, _⟩ := box_facts _ _ _ _ _ _ _ _ w1 hw1
  obtain ⟨w2, hw2⟩ : ∃ w2, w2 = w1.alloc (.cells #[.int .u8 0, .int .u32 0, .int .u32 0, .int .u32 0, .int .u32 0, .bool false, .slice none 0 0] 31) := ⟨_, rfl⟩
  obtain ⟨g2, hb2, _⟩ := box_facts _ _ _ _ _ _ _ _ w2 hw2
  have hs1 : w1.heap.size = w.heap.size + 1 := by rw [hw1]; simp
  have hs2 : w2.heap.size = w.heap.size + 2 := by rw [hw2]; simp [hs1]
  rw [hs1] at g2
  have HG1 := hid ((hb2.block _ (by omega)).trans g1)
  have HG2 := hid (show PkB w2 (w.heap.size + 1) from ⟨_, _, _, _, _, _, _, g2⟩)
  have HB2 := hid (hb1.trans (hb2.mono (by omega)))
  have HW1 := hid hw1
  have HW2 := hid hw2
  have HS2 := hid hs2
  clear g1 g2 hb1 hb2 hw1 hw2 hs1 hs2
  have H2 := hid (h.below HB2.out)
  have HM := hid hm
  have HAK := hid (Tk.mine_ack hm)
  have HKA := hid hka
  have HZ := hid hz
  clear h hm hka hv hz
  go_enter Try.func22, Try.ntmps22
  go_upto_region 1 with (fail)
  rw [← HW1.out, ← HW2.out]
  go_wp2_with (first | (refine pk_ld rfl (.tmp 3) rfl w.heap.size rfl _ _ _ _ _ _ _ HG1.out ?_) | fail)
  refine (refmine_any base b s k va _ vc w2 H2.out HKA.out).mono ?_
  rintro e w3 ⟨rfl, hb3⟩
  rw [HM.out]
  have H3 := hid (H2.out.below hb3)
  have HB3 := hid (HB2.out.trans (hb3.mono (by have := HS2.out; omega)))
  have HP3 := hid (HG2.out.below hb3)
  have HS3 := hid (show w.heap.size + 2 ≤ w3.heap.size by have := hb3.size; have := HS2.out; omega)
  have HG3 := hid ((hb3.block _ (by have := HS2.out; omega)).trans HG1.out)
  clear hb3
  obtain ⟨sv, tv, PF, hh3⟩ := H3.out
  obtain ⟨wd, hwd⟩ : ∃ wd, wd = w3.drew := ⟨_, rfl⟩
  have HBd := hid (show Below w3.heap.size w3 wd by rw [hwd]; exact below_dr (Below.refl _ _))
  have HHd := hid (hh3.below HBd.out)
  have HGd := hid (show wd.heap[w.heap.size]? = _ from (HBd.out.block w.heap.size (by have := HS3.out; omega)).trans HG3.out)
  have HPd := hid (HP3.out.below HBd.out)
  have HU1 := hid (show wd.cell? ⟨b, 6, none⟩ = some (.int .i64 (s.done : Int)) from HHd.out.cells.2.2.2.2.2.2.1)
  have HU2 := hid (show wd.cell? ⟨w.heap.size, 4, none⟩ = some (.int .u32 (k.ack : Int)) from (cell_of_row _ _ _ _ _ _ HGd.out).trans rfl)
  have HUN := hid (show ∀ (L : Array Bool), wd.cell? ⟨b, 6, none⟩ = some (.int .i64 (s.done : Int)) → wd.cell? ⟨w.heap.size, 4, none⟩ = some (.int .u32 (k.ack : Int)) → UntilAll [(11, (fun w' => w'.cell? ⟨b, 6, none⟩ = some (.int .i64 (s.done : Int)))), (11, (fun w' => w'.cell? ⟨w.heap.size, 4, none⟩ = some (.int .u32 (k.ack : Int))))] L wd from by
    intro L h1 h2 c hc _
    simp only [List.mem_cons, List.not_mem_nil, or_false] at hc
    rcases hc with rfl | rfl
    · exact h1
    · exact h2)
  obtain ⟨mx, hmx⟩ : ∃ mx, mx = max s.done k.ack := ⟨_, rfl⟩
  have HMX := hid (show ((k.ack : Int) = (mx : Int) ∧ s.done < k.ack) ∨ ((s.done : Int) = (mx : Int) ∧ ¬ s.done < k.ack) by omega)
  have HMQ := hid hmx
  have HWA := hid (show IntKind.i64.wrap (k.ack : Int) = (k.ack : Int) by have := HKA.out; rw [IntKind.wrap_i64]; omega)
  have c6 : wd.cell? ⟨b, 6, none⟩ = some (.int .i64 (s.done : Int)) := HU1.out
  have f6 : wd.frozen? ⟨b, 6, none⟩ = false := HHd.out.cells.2.2.2.2.2.2.2.2 6
  clear hh3 hmx
  go_wp2_with fail
  refine Orders.begins (C := [(11, (fun w' => w'.cell? ⟨b, 6, none⟩ = some (.int .i64 (s.done : Int)))), (11, (fun w' => w'.cell? ⟨w.heap.size, 4, none⟩ = some (.int .u32 (k.ack : Int))))]) (by kernel_rfl) ?_
  rw [← hwd]
  clear hwd
  refine Orders.take (fun _ => True) [] (i := 0) (v := ?_) rfl (by kernel_rfl) (by kernel_rfl) (by kernel_rfl) (fun _ _ _ h => h) (by kernel_rfl) (fun _ _ _ _ => trivial) (by kernel_rfl) (by kernel_rfl) (Or.inl ⟨by rfl, ?_⟩) (HUN.out _ HU1.out HU2.out) (fun HU => ?_)
  rotate_left
  · intro u hSw
    try dsimp only at hSw
    go_simp
    try (with_reducible rfl)
  clear HU
  try simp only [Act.put, List.getElem_toArray, List.getElem_cons_succ, List.getElem_cons_zero, List.setIfInBounds_toArray, List.set_cons_zero, List.set_cons_succ]
  refine Orders.take (fun _ => True) [] (i := 1) (v := ?_) rfl (by kernel_rfl) (by kernel_rfl) (by kernel_rfl) (fun _ _ _ h => h) (by kernel_rfl) (fun _ _ _ _ => trivial) (by kernel_rfl) (by kernel_rfl) (Or.inl ⟨by rfl, ?_⟩) (HUN.out _ HU1.out HU2.out) (fun HU => ?_)
  rotate_left
  · intro u hSw
    try dsimp only at hSw
    go_simp
    try (with_reducible rfl)
  clear HU
  try simp only [Act.put, List.getElem_toArray, List.getElem_cons_succ, List.getElem_cons_zero, List.setIfInBounds_toArray, List.set_cons_zero, List.set_cons_succ]
  refine Orders.take (fun _ => True) [] (i := 2) (v := ?_) rfl (by kernel_rfl) (by kernel_rfl) (by kernel_rfl) (fun _ _ _ h => h) (by kernel_rfl) (fun _ _ _ _ => trivial) (by kernel_rfl) (by kernel_rfl) (Or.inl ⟨by rfl, ?_⟩) (HUN.out _ HU1.out HU2.out) (fun HU => ?_)
  rotate_left
  · intro u hSw
    try dsimp only at hSw
    go_simp
    try (with_reducible rfl)
  clear HU
  try simp only [Act.put, List.getElem_toArray, List.getElem_cons_succ, List.getElem_cons_zero, List.setIfInBounds_toArray, List.set_cons_zero, List.set_cons_succ]
  refine Orders.take (fun _ => True) [] (i := 3) (v := ?_) rfl (by kernel_rfl) (by kernel_rfl) (by kernel_rfl) (fun _ _ _ h => h) (by kernel_rfl) (fun _ _ _ _ => trivial) (by kernel_rfl) (by kernel_rfl) (Or.inl ⟨by rfl, ?_⟩) (HUN.out _ HU1.out HU2.out) (fun HU => ?_)
  rotate_left
  · intro u hSw
    try dsimp only at hSw
    go_simp
    try (with_reducible rfl)
  clear HU
  try simp only [Act.put, List.getElem_toArray, List.getElem_cons_succ, List.getElem_cons_zero, List.setIfInBounds_toArray, List.set_cons_zero, List.set_cons_succ]
  refine Orders.take (fun w' => w'.cell? ⟨b, 6, none⟩ = some (.int .i64 (s.done : Int))) [11] (i := 4) (v := ?_) rfl (by kernel_rfl) (by kernel_rfl) (by kernel_rfl) (fun _ _ _ h => h) (by kernel_rfl) (fun L u hd h => h (11, (fun w' => w'.cell? ⟨b, 6, none⟩ = some (.int .i64 (s.done : Int)))) (by simp) (hd 11 (by simp))) (by kernel_rfl) (by kernel_rfl) (Or.inl ⟨by rfl, ?_⟩) (HUN.out _ HU1.out HU2.out) (fun HU => ?_)
  rotate_left
  · intro u hSw
    try dsimp only at hSw
    go_simp
    try (with_reducible rfl)
  clear HU
  try simp only [Act.put, List.getElem_toArray, List.getElem_cons_succ, List.getElem_cons_zero, List.setIfInBounds_toArray, List.set_cons_zero, List.set_cons_succ]
  refine Orders.take (fun _ => True) [] (i := 5) (v := ?_) rfl (by kernel_rfl) (by kernel_rfl) (by kernel_rfl) (fun _ _ _ h => h) (by kernel_rfl) (fun _ _ _ _ => trivial) (by kernel_rfl) (by kernel_rfl) (Or.inl ⟨by rfl, ?_⟩) (HUN.out _ HU1.out HU2.out) (fun HU => ?_)
  rotate_left
  · intro u hSw
    try dsimp only at hSw
    go_simp
    try (with_reducible rfl)
  clear HU
  try simp only [Act.put, List.getElem_toArray, List.getElem_cons_succ, List.getElem_cons_zero, List.setIfInBounds_toArray, List.set_cons_zero, List.set_cons_succ]
  refine Orders.take (fun w' => w'.cell? ⟨w.heap.size, 4, none⟩ = some (.int .u32 (k.ack : Int))) [11] (i := 6) (v := ?_) rfl (by kernel_rfl) (by kernel_rfl) (by kernel_rfl) (fun _ _ _ h => h) (by kernel_rfl) (fun L u hd h => h (11, (fun w' => w'.cell? ⟨w.heap.size, 4, none⟩ = some (.int .u32 (k.ack : Int)))) (by simp) (hd 11 (by simp))) (by kernel_rfl) (by kernel_rfl) (Or.inl ⟨by rfl, ?_⟩) (HUN.out _ HU1.out HU2.out) (fun HU => ?_)
  rotate_left
  · intro u hSw
    try dsimp only at hSw
    go_simp
    try (with_reducible rfl)
  clear HU
  try simp only [Act.put, List.getElem_toArray, List.getElem_cons_succ, List.getElem_cons_zero, List.setIfInBounds_toArray, List.set_cons_zero, List.set_cons_succ]
  refine Orders.take (fun _ => True) [] (i := 7) (v := ?_) rfl (by kernel_rfl) (by kernel_rfl) (by kernel_rfl) (fun _ _ _ h => h) (by kernel_rfl) (fun _ _ _ _ => trivial) (by kernel_rfl) (by kernel_rfl) (Or.inl ⟨by rfl, ?_⟩) (HUN.out _ HU1.out HU2.out) (fun HU => ?_)
  rotate_left
  · intro u hSw
    try dsimp only at hSw
    try rw [HWA.out]
    go_simp
    try (with_reducible rfl)
  clear HU
  try simp only [Act.put, List.getElem_toArray, List.getElem_cons_succ, List.getElem_cons_zero, List.setIfInBounds_toArray, List.set_cons_zero, List.set_cons_succ]
  refine Orders.take (fun _ => True) [] (i := 8) (v := .int .i64 (mx : Int)) rfl (by kernel_rfl) (by kernel_rfl) (by kernel_rfl) (fun _ _ _ h => h) (by kernel_rfl) (fun _ _ _ _ => trivial) (by kernel_rfl) (by kernel_rfl) (Or.inl ⟨by rfl, ?_⟩) (HUN.out _ HU1.out HU2.out) (fun HU => ?_)
  · intro u hSw
    try dsimp only at hSw
    go_simp
    rw [HWA.out]
    have := HMX.out
    split <;> omega
  clear HU
  try simp only [Act.put, List.getElem_toArray, List.getElem_cons_succ, List.getElem_cons_zero, List.setIfInBounds_toArray, List.set_cons_zero, List.set_cons_succ]
  refine Orders.take (fun _ => True) [] (i := 9) (v := ?_) rfl (by kernel_rfl) (by kernel_rfl) (by kernel_rfl) (fun _ _ _ h => h) (by kernel_rfl) (fun _ _ _ _ => trivial) (by kernel_rfl) (by kernel_rfl) (Or.inl ⟨by rfl, ?_⟩) (HUN.out _ HU1.out HU2.out) (fun HU => ?_)
  rotate_left
  · intro u hSw
    try dsimp only at hSw
    go_simp
    try (with_reducible rfl)
  clear HU
  try simp only [Act.put, List.getElem_toArray, List.getElem_cons_succ, List.getElem_cons_zero, List.setIfInBounds_toArray, List.set_cons_zero, List.set_cons_succ]
  refine Orders.take (fun _ => True) [] (i := 10) (v := ?_) rfl (by kernel_rfl) (by kernel_rfl) (by kernel_rfl) (fun _ _ _ h => h) (by kernel_rfl) (fun _ _ _ _ => trivial) (by kernel_rfl) (by kernel_rfl) (Or.inl ⟨by rfl, ?_⟩) (HUN.out _ HU1.out HU2.out) (fun HU => ?_)
  rotate_left
  · intro u hSw
    try dsimp only at hSw
    go_simp
    try (with_reducible rfl)
  clear HU
  try simp only [Act.put, List.getElem_toArray, List.getElem_cons_succ, List.getElem_cons_zero, List.setIfInBounds_toArray, List.set_cons_zero, List.set_cons_succ]
  refine Orders.one (i := 11) (by kernel_rfl) rfl (fun K hK => ?_)
  go_simp
  refine hK.out _ _ ?_ (fun HU => ?_)
  · intro c hc hl
    simp only [List.mem_cons, List.not_mem_nil, or_false] at hc
    rcases hc with rfl | rfl <;> exact absurd hl (fun h => Bool.noConfusion (h.symm.trans (by kernel_rfl : _ = true)))
  clear hK K HU
  try simp only [Act.put, List.getElem_toArray, List.getElem_cons_succ, List.getElem_cons_zero, List.setIfInBounds_toArray, List.set_cons_zero, List.set_cons_succ]
  refine Orders.ends (by kernel_rfl) ?_ _
  obtain ⟨w4, hw4⟩ : ∃ w4, w4 = wd.setCell ⟨b, 6, none⟩ (.int .i64 (mx : Int)) := ⟨_, rfl⟩
  rw [← hw4]
  have hk4 : Keeps (fun q => q = b) wd w4 := by rw [hw4]; exact kset _ _ _ _
  have HX4 := hid (show RtV w4 base b (s.settle k.ack) sv tv PF from HHd.out.head' hk4 (by rw [hw4, heap_setCell_same _ _ _ _ _ _ HHd.out.head]; simp [Tk.settle, HMQ.out]) rfl (Tk.ok_settle HHd.out.ok _ HAK.out))
  have hbn : b ≠ w.heap.size := by
    intro e
    have := HHd.out.head
    rw [e, HGd.out] at this
    simp only [Option.some.injEq, Obj.cells.injEq] at this
    exact absurd this.2.1 (by decide)
  have hbn2 : b ≠ w.heap.size + 1 := by
    intro e
    obtain ⟨q0, q1, q2, q3, q4, q5, q6, e7⟩ := HPd.out
    have := HHd.out.head
    rw [e, e7] at this
    simp only [Option.some.injEq, Obj.cells.injEq] at this
    exact absurd this.2.1 (by decide)
  have hsd := HBd.out.size
  have HG4 := hid ((hk4.block w.heap.size (by have := HS3.out; omega) (fun e => hbn e.symm)).trans HGd.out)
  have HP4 := hid (HPd.out.of (hk4.block (w.heap.size + 1) (by have := HS3.out; omega) (fun e => hbn2 e.symm)))
  have HK4 := hid (show KT refTs base.n w w4 from (KT.of_below (HB3.out.trans (HBd.out.mono (by have := HS3.out; omega))) hb).trans (HHd.out.ktS hk4 (fun q _ e => .inl e) (by have := HS3.out; omega)))
  have HS4 := hid (show w.heap.size + 2 ≤ w4.heap.size by have := HS3.out; have := hk4.size; omega)
  clear hw4 hk4 hbn hbn2 hsd c6 f6
  have y3 : w4.cell? ⟨w.heap.size, 3, none⟩ = some (.int .u32 (k.seq : Int)) := (cell_of_row _ _ _ _ _ _ HG4.out).trans rfl
  rw [HZ.out] at y3
  go_wp2_with (first | (refine pk_st rfl (.tmp 6) (.tmp 28) rfl (w.heap.size + 1) (.int .u8 0) (.int .u32 0) (.int .u32 0) (.int .u32 0) (.int .u32 0) (.bool false) (.slice none 0 0) rfl rfl HP4.out (by simp [Value.oneCell']) ?_) | fail)
  have kr := setRow_keeps w4 (w.heap.size + 1) #[.int .u8 0, .int .u32 0, .int .u32 0, .int .u32 0, .int .u32 0, .bool false, .slice none 0 0]
  have h4 := HS4.out
  refine bodyPost_ret (results_pk4 rfl _ _ _ _ _ (w.heap.size + 1) _ _ _ _ _ _ _ rfl rfl rfl rfl (HP4.out.row _ _ _ _ _ _ _)) rfl ⟨rfl, ?_, ?_⟩
  · exact RtAt.kt (ts := [31]) (b0 := base.n) ⟨_, _, _, HX4.out⟩ (KT.of_keeps kr (fun q _ e => by
      obtain ⟨c0, c1, c2, c3, c4, c5, c6, e7⟩ := HP4.out
      subst e
      exact ⟨by omega, _, _, _, e7, by simp⟩) (by omega)) (by decide) (by decide) (by decide) (by decide)
  · exact HK4.out.new kr (by omega) (by omega) (by omega)

set_option maxRecDepth 100000 in
set_option maxHeartbeats 8000000 in
theorem refhear_again (base : B9) (b : Nat) (s : Tk) (k : Pk) (va : Option Addr) (vc : Nat) (w : World) (h : RtAt w base b s) (hb : base.n ≤ w.heap.size) (hv : Rd w (.slice va k.data.length vc) k.data) (hkl : k.data.length ≤ 1000000) (hka : k.ack < 4294967296) (hm : s.mine k = true) (hz : k.seq ≠ 0) (hn : k.seq ≠ s.heard + 1) (hsq : k.seq < 4294967296) :
    Calls Try.prog 22 #[.pointer (some ⟨b, 0, none⟩), .agg #[.int .u8 k.node, .int .u32 k.epoch, .int .u32 k.life, .int .u32 (k.seq : Int), .int .u32 (k.ack : Int), .bool k.plain, .slice va k.data.length vc]] w fun e w' => e = .returned (.tuple #[.slice none 0 0, .bool false, .agg #[.int .u8 s.node, .int .u32 s.epoch, .int .u32 s.life, .int .u32 0, .int .u32 (s.heard : Int), .bool false, .slice none 0 0], .bool true]) ∧ RtAt w' base b (s.settle k.ack) ∧ KT refTs base.n w w' := by
  obtain ⟨w1, hw1⟩ : ∃ w1, w1 = w.alloc (.cells #[.int .u8 k.node, .int .u32 k.epoch, .int .u32 k.life, .int .u32 (k.seq : Int), .int .u32 (k.ack : Int), .bool k.plain, .slice va k.data.length vc] 31) := ⟨_, rfl⟩
  obtain ⟨g1, hb1, _⟩ := box_facts _ _ _ _ _ _ _ _ w1 hw1
  obtain ⟨w2, hw2⟩ : ∃ w2, w2 = w1.alloc (.cells #[.int .u8 0, .int .u32 0, .int .u32 0, .int .u32 0, .int .u32 0, .bool false, .slice none 0 0] 31) := ⟨_, rfl⟩
  obtain ⟨g2, hb2, _⟩ := box_facts _ _ _ _ _ _ _ _ w2 hw2
  have hs1 : w1.heap.size = w.heap.size + 1 := by rw [hw1]; simp
  have hs2 : w2.heap.size = w.heap.size + 2 := by rw [hw2]; simp [hs1]
  rw [hs1] at g2
  have HG1 := hid ((hb2.block _ (by omega)).trans g1)
  have HG2 := hid (show PkB w2 (w.heap.size + 1) from ⟨_, _, _, _, _, _, _, g2⟩)
  have HB2 := hid (hb1.trans (hb2.mono (by omega)))
  have HW1 := hid hw1
  have HW2 := hid hw2
  have HS2 := hid hs2
  clear g1 g2 hb1 hb2 hw1 hw2 hs1 hs2
  have H2 := hid (h.below HB2.out)
  have HM := hid hm
  have HAK := hid (Tk.mine_ack hm)
  have HKA := hid hka
  have hhd : s.heard ≤ 1000000 := by
    obtain ⟨_, _, _, hh⟩ := h
    exact hh.ok.2.2.2.1
  have e0 : ((k.seq : Int) == 0) = false := by rw [beq_eq_false_iff_ne]; omega
  have HE1 := hid (show ((k.seq : Int) == (s.heard : Int) + 1) = false by rw [beq_eq_false_iff_ne]; omega)
  have HSQ := hid (show IntKind.u64.wrap (k.seq : Int) = (k.seq : Int) by rw [IntKind.wrap_u64]; omega)
  have HSH := hid (show IntKind.u64.wrap (s.heard : Int) = (s.heard : Int) by rw [IntKind.wrap_u64]; omega)
  have HSI := hid (show IntKind.u64.wrap ((s.heard : Int) + 1) = (s.heard : Int) + 1 by rw [IntKind.wrap_u64]; omega)
  clear h hm hka hv hz hn hsq hhd
  go_enter Try.func22, Try.ntmps22
  go_upto_region 1 with (fail)
  rw [← HW1.out, ← HW2.out]
  go_wp2_with (first | (refine pk_ld rfl (.tmp 3) rfl w.heap.size rfl _ _ _ _ _ _ _ HG1.out ?_) | fail)
  refine (refmine_any base b s k va _ vc w2 H2.out HKA.out).mono ?_
  rintro e w3 ⟨rfl, hb3⟩
  rw [HM.out]
  have H3 := hid (H2.out.below hb3)
  have HB3 := hid (HB2.out.trans (hb3.mono (by have := HS2.out; omega)))
  have HP3 := hid (HG2.out.below hb3)
  have HS3 := hid (show w.heap.size + 2 ≤ w3.heap.size by have := hb3.size; have := HS2.out; omega)
  have HG3 := hid ((hb3.block _ (by have := HS2.out; omega)).trans HG1.out)
  clear hb3
  obtain ⟨sv, tv, PF, hh3⟩ := H3.out
  obtain ⟨wd, hwd⟩ : ∃ wd, wd = w3.drew := ⟨_, rfl⟩
  have HBd := hid (show Below w3.heap.size w3 wd by rw [hwd]; exact below_dr (Below.refl _ _))
  have HHd := hid (hh3.below HBd.out)
  have HGd := hid (show wd.heap[w.heap.size]? = _ from (HBd.out.block w.heap.size (by have := HS3.out; omega)).trans HG3.out)
  have HPd := hid (HP3.out.below HBd.out)
  have HU1 := hid (show wd.cell? ⟨b, 6, none⟩ = some (.int .i64 (s.done : Int)) from HHd.out.cells.2.2.2.2.2.2.1)
  have HU2 := hid (show wd.cell? ⟨w.heap.size, 4, none⟩ = some (.int .u32 (k.ack : Int)) from (cell_of_row _ _ _ _ _ _ HGd.out).trans rfl)
  have HUN := hid (show ∀ (L : Array Bool), wd.cell? ⟨b, 6, none⟩ = some (.int .i64 (s.done : Int)) → wd.cell? ⟨w.heap.size, 4, none⟩ = some (.int .u32 (k.ack : Int)) → UntilAll [(11, (fun w' => w'.cell? ⟨b, 6, none⟩ = some (.int .i64 (s.done : Int)))), (11, (fun w' => w'.cell? ⟨w.heap.size, 4, none⟩ = some (.int .u32 (k.ack : Int))))] L wd from by
    intro L h1 h2 c hc _
    simp only [List.mem_cons, List.not_mem_nil, or_false] at hc
    rcases hc with rfl | rfl
    · exact h1
    · exact h2)
  obtain ⟨mx, hmx⟩ : ∃ mx, mx = max s.done k.ack := ⟨_, rfl⟩
  have HMX := hid (show ((k.ack : Int) = (mx : Int) ∧ s.done < k.ack) ∨ ((s.done : Int) = (mx : Int) ∧ ¬ s.done < k.ack) by omega)
  have HMQ := hid hmx
  have HWA := hid (show IntKind.i64.wrap (k.ack : Int) = (k.ack : Int) by have := HKA.out; rw [IntKind.wrap_i64]; omega)
  have c6 : wd.cell? ⟨b, 6, none⟩ = some (.int .i64 (s.done : Int)) := HU1.out
  have f6 : wd.frozen? ⟨b, 6, none⟩ = false := HHd.out.cells.2.2.2.2.2.2.2.2 6
  clear hh3 hmx
  go_wp2_with fail
  refine Orders.begins (C := [(11, (fun w' => w'.cell? ⟨b, 6, none⟩ = some (.int .i64 (s.done : Int)))), (11, (fun w' => w'.cell? ⟨w.heap.size, 4, none⟩ = some (.int .u32 (k.ack : Int))))]) (by kernel_rfl) ?_
  rw [← hwd]
  clear hwd
  refine Orders.take (fun _ => True) [] (i := 0) (v := ?_) rfl (by kernel_rfl) (by kernel_rfl) (by kernel_rfl) (fun _ _ _ h => h) (by kernel_rfl) (fun _ _ _ _ => trivial) (by kernel_rfl) (by kernel_rfl) (Or.inl ⟨by rfl, ?_⟩) (HUN.out _ HU1.out HU2.out) (fun HU => ?_)
  rotate_left
  · intro u hSw
    try dsimp only at hSw
    go_simp
    try (with_reducible rfl)
  clear HU
  try simp only [Act.put, List.getElem_toArray, List.getElem_cons_succ, List.getElem_cons_zero, List.setIfInBounds_toArray, List.set_cons_zero, List.set_cons_succ]
  refine Orders.take (fun _ => True) [] (i := 1) (v := ?_) rfl (by kernel_rfl) (by kernel_rfl) (by kernel_rfl) (fun _ _ _ h => h) (by kernel_rfl) (fun _ _ _ _ => trivial) (by kernel_rfl) (by kernel_rfl) (Or.inl ⟨by rfl, ?_⟩) (HUN.out _ HU1.out HU2.out) (fun HU => ?_)
  rotate_left
  · intro u hSw
    try dsimp only at hSw
    go_simp
    try (with_reducible rfl)
  clear HU
  try simp only [Act.put, List.getElem_toArray, List.getElem_cons_succ, List.getElem_cons_zero, List.setIfInBounds_toArray, List.set_cons_zero, List.set_cons_succ]
  refine Orders.take (fun _ => True) [] (i := 2) (v := ?_) rfl (by kernel_rfl) (by kernel_rfl) (by kernel_rfl) (fun _ _ _ h => h) (by kernel_rfl) (fun _ _ _ _ => trivial) (by kernel_rfl) (by kernel_rfl) (Or.inl ⟨by rfl, ?_⟩) (HUN.out _ HU1.out HU2.out) (fun HU => ?_)
  rotate_left
  · intro u hSw
    try dsimp only at hSw
    go_simp
    try (with_reducible rfl)
  clear HU
  try simp only [Act.put, List.getElem_toArray, List.getElem_cons_succ, List.getElem_cons_zero, List.setIfInBounds_toArray, List.set_cons_zero, List.set_cons_succ]
  refine Orders.take (fun _ => True) [] (i := 3) (v := ?_) rfl (by kernel_rfl) (by kernel_rfl) (by kernel_rfl) (fun _ _ _ h => h) (by kernel_rfl) (fun _ _ _ _ => trivial) (by kernel_rfl) (by kernel_rfl) (Or.inl ⟨by rfl, ?_⟩) (HUN.out _ HU1.out HU2.out) (fun HU => ?_)
  rotate_left
  · intro u hSw
    try dsimp only at hSw
    go_simp
    try (with_reducible rfl)
  clear HU
  try simp only [Act.put, List.getElem_toArray, List.getElem_cons_succ, List.getElem_cons_zero, List.setIfInBounds_toArray, List.set_cons_zero, List.set_cons_succ]
  refine Orders.take (fun w' => w'.cell? ⟨b, 6, none⟩ = some (.int .i64 (s.done : Int))) [11] (i := 4) (v := ?_) rfl (by kernel_rfl) (by kernel_rfl) (by kernel_rfl) (fun _ _ _ h => h) (by kernel_rfl) (fun L u hd h => h (11, (fun w' => w'.cell? ⟨b, 6, none⟩ = some (.int .i64 (s.done : Int)))) (by simp) (hd 11 (by simp))) (by kernel_rfl) (by kernel_rfl) (Or.inl ⟨by rfl, ?_⟩) (HUN.out _ HU1.out HU2.out) (fun HU => ?_)
  rotate_left
  · intro u hSw
    try dsimp only at hSw
    go_simp
    try (with_reducible rfl)
  clear HU
  try simp only [Act.put, List.getElem_toArray, List.getElem_cons_succ, List.getElem_cons_zero, List.setIfInBounds_toArray, List.set_cons_zero, List.set_cons_succ]
  refine Orders.take (fun _ => True) [] (i := 5) (v := ?_) rfl (by kernel_rfl) (by kernel_rfl) (by kernel_rfl) (fun _ _ _ h => h) (by kernel_rfl) (fun _ _ _ _ => trivial) (by kernel_rfl) (by kernel_rfl) (Or.inl ⟨by rfl, ?_⟩) (HUN.out _ HU1.out HU2.out) (fun HU => ?_)
  rotate_left
  · intro u hSw
    try dsimp only at hSw
    go_simp
    try (with_reducible rfl)
  clear HU
  try simp only [Act.put, List.getElem_toArray, List.getElem_cons_succ, List.getElem_cons_zero, List.setIfInBounds_toArray, List.set_cons_zero, List.set_cons_succ]
  refine Orders.take (fun w' => w'.cell? ⟨w.heap.size, 4, none⟩ = some (.int .u32 (k.ack : Int))) [11] (i := 6) (v := ?_) rfl (by kernel_rfl) (by kernel_rfl) (by kernel_rfl) (fun _ _ _ h => h) (by kernel_rfl) (fun L u hd h => h (11, (fun w' => w'.cell? ⟨w.heap.size, 4, none⟩ = some (.int .u32 (k.ack : Int)))) (by simp) (hd 11 (by simp))) (by kernel_rfl) (by kernel_rfl) (Or.inl ⟨by rfl, ?_⟩) (HUN.out _ HU1.out HU2.out) (fun HU => ?_)
  rotate_left
  · intro u hSw
    try dsimp only at hSw
    go_simp
    try (with_reducible rfl)
  clear HU
  try simp only [Act.put, List.getElem_toArray, List.getElem_cons_succ, List.getElem_cons_zero, List.setIfInBounds_toArray, List.set_cons_zero, List.set_cons_succ]
  refine Orders.take (fun _ => True) [] (i := 7) (v := ?_) rfl (by kernel_rfl) (by kernel_rfl) (by kernel_rfl) (fun _ _ _ h => h) (by kernel_rfl) (fun _ _ _ _ => trivial) (by kernel_rfl) (by kernel_rfl) (Or.inl ⟨by rfl, ?_⟩) (HUN.out _ HU1.out HU2.out) (fun HU => ?_)
  rotate_left
  · intro u hSw
    try dsimp only at hSw
    try rw [HWA.out]
    go_simp
    try (with_reducible rfl)
  clear HU
  try simp only [Act.put, List.getElem_toArray, List.getElem_cons_succ, List.getElem_cons_zero, List.setIfInBounds_toArray, List.set_cons_zero, List.set_cons_succ]
  refine Orders.take (fun _ => True) [] (i := 8) (v := .int .i64 (mx : Int)) rfl (by kernel_rfl) (by kernel_rfl) (by kernel_rfl) (fun _ _ _ h => h) (by kernel_rfl) (fun _ _ _ _ => trivial) (by kernel_rfl) (by kernel_rfl) (Or.inl ⟨by rfl, ?_⟩) (HUN.out _ HU1.out HU2.out) (fun HU => ?_)
  · intro u hSw
    try dsimp only at hSw
    go_simp
    rw [HWA.out]
    have := HMX.out
    split <;> omega
  clear HU
  try simp only [Act.put, List.getElem_toArray, List.getElem_cons_succ, List.getElem_cons_zero, List.setIfInBounds_toArray, List.set_cons_zero, List.set_cons_succ]
  refine Orders.take (fun _ => True) [] (i := 9) (v := ?_) rfl (by kernel_rfl) (by kernel_rfl) (by kernel_rfl) (fun _ _ _ h => h) (by kernel_rfl) (fun _ _ _ _ => trivial) (by kernel_rfl) (by kernel_rfl) (Or.inl ⟨by rfl, ?_⟩) (HUN.out _ HU1.out HU2.out) (fun HU => ?_)
  rotate_left
  · intro u hSw
    try dsimp only at hSw
    go_simp
    try (with_reducible rfl)
  clear HU
  try simp only [Act.put, List.getElem_toArray, List.getElem_cons_succ, List.getElem_cons_zero, List.setIfInBounds_toArray, List.set_cons_zero, List.set_cons_succ]
  refine Orders.take (fun _ => True) [] (i := 10) (v := ?_) rfl (by kernel_rfl) (by kernel_rfl) (by kernel_rfl) (fun _ _ _ h => h) (by kernel_rfl) (fun _ _ _ _ => trivial) (by kernel_rfl) (by kernel_rfl) (Or.inl ⟨by rfl, ?_⟩) (HUN.out _ HU1.out HU2.out) (fun HU => ?_)
  rotate_left
  · intro u hSw
    try dsimp only at hSw
    go_simp
    try (with_reducible rfl)
  clear HU
  try simp only [Act.put, List.getElem_toArray, List.getElem_cons_succ, List.getElem_cons_zero, List.setIfInBounds_toArray, List.set_cons_zero, List.set_cons_succ]
  refine Orders.one (i := 11) (by kernel_rfl) rfl (fun K hK => ?_)
  go_simp
  refine hK.out _ _ ?_ (fun HU => ?_)
  · intro c hc hl
    simp only [List.mem_cons, List.not_mem_nil, or_false] at hc
    rcases hc with rfl | rfl <;> exact absurd hl (fun h => Bool.noConfusion (h.symm.trans (by kernel_rfl : _ = true)))
  clear hK K HU
  try simp only [Act.put, List.getElem_toArray, List.getElem_cons_succ, List.getElem_cons_zero, List.setIfInBounds_toArray, List.set_cons_zero, List.set_cons_succ]
  refine Orders.ends (by kernel_rfl) ?_ _
  obtain ⟨w4, hw4⟩ : ∃ w4, w4 = wd.setCell ⟨b, 6, none⟩ (.int .i64 (mx : Int)) := ⟨_, rfl⟩
  rw [← hw4]
  have hk4 : Keeps (fun q => q = b) wd w4 := by rw [hw4]; exact kset _ _ _ _
  have HX4 := hid (show RtV w4 base b (s.settle k.ack) sv tv PF from HHd.out.head' hk4 (by rw [hw4, heap_setCell_same _ _ _ _ _ _ HHd.out.head]; simp [Tk.settle, HMQ.out]) rfl (Tk.ok_settle HHd.out.ok _ HAK.out))
  have hbn : b ≠ w.heap.size := by
    intro e
    have := HHd.out.head
    rw [e, HGd.out] at this
    simp only [Option.some.injEq, Obj.cells.injEq] at this
    exact absurd this.2.1 (by decide)
  have hbn2 : b ≠ w.heap.size + 1 := by
    intro e
    obtain ⟨q0, q1, q2, q3, q4, q5, q6, e7⟩ := HPd.out
    have := HHd.out.head
    rw [e, e7] at this
    simp only [Option.some.injEq, Obj.cells.injEq] at this
    exact absurd this.2.1 (by decide)
  have hsd := HBd.out.size
  have HG4 := hid ((hk4.block w.heap.size (by have := HS3.out; omega) (fun e => hbn e.symm)).trans HGd.out)
  have HP4 := hid (HPd.out.of (hk4.block (w.heap.size + 1) (by have := HS3.out; omega) (fun e => hbn2 e.symm)))
  have HK4 := hid (show KT refTs base.n w w4 from (KT.of_below (HB3.out.trans (HBd.out.mono (by have := HS3.out; omega))) hb).trans (HHd.out.ktS hk4 (fun q _ e => .inl e) (by have := HS3.out; omega)))
  have HS4 := hid (show w.heap.size + 2 ≤ w4.heap.size by have := HS3.out; have := hk4.size; omega)
  clear hw4 hk4 hbn hbn2 hsd c6 f6
  have y3 : w4.cell? ⟨w.heap.size, 3, none⟩ = some (.int .u32 (k.seq : Int)) := (cell_of_row _ _ _ _ _ _ HG4.out).trans rfl
  have d7 : w4.cell? ⟨b, 7, none⟩ = some (.int .u32 (s.heard : Int)) := HX4.out.cells.2.2.2.2.2.2.2.1
  go_wp2_with fail
  have e1 := HE1.out
  have e2 := HSQ.out
  have e3 := HSH.out
  have e4 := HSI.out
  go_quiet (fail)
  clear e1 e2 e3 e4
  obtain ⟨wq, hwq⟩ : ∃ wq, wq = w4.drewN nq := ⟨_, rfl⟩
  rw [← hwq]
  have HBq := hid (show Below w4.heap.size w4 wq by rw [hwq]; exact below_behind (Below.refl _ _) _)
  have HXq := hid (HX4.out.below HBq.out)
  have HPq := hid (HP4.out.below HBq.out)
  have HKq := hid (show KT refTs base.n w wq from HK4.out.trans (KT.of_below HBq.out (by have := HS4.out; omega)))
  have HSq := hid (show w.heap.size + 2 ≤ wq.heap.size by have := HS4.out; have := HBq.out.size; omega)
  clear hwq y3 d7
  go_wp2_with fail
  refine (refpacket_none base b (s.settle k.ack) wq ⟨_, _, _, HXq.out⟩).mono ?_
  rintro e w5 ⟨rfl, hb5⟩
  have HB5 := hid hb5
  have HP5 := hid (HPq.out.below hb5)
  clear hb5
  go_wp2_with (first | (refine pk_st rfl (.tmp 6) (.tmp 42) rfl (w.heap.size + 1) (.int .u8 s.node) (.int .u32 s.epoch) (.int .u32 s.life) (.int .u32 0) (.int .u32 (s.heard : Int)) (.bool false) (.slice none 0 0) rfl rfl HP5.out (by simp [Value.oneCell']) ?_) | fail)
  have kr := setRow_keeps w5 (w.heap.size + 1) #[.int .u8 s.node, .int .u32 s.epoch, .int .u32 s.life, .int .u32 0, .int .u32 (s.heard : Int), .bool false, .slice none 0 0]
  have h4 := HSq.out
  have h5 := HB5.out.size
  refine bodyPost_ret (results_pk4 rfl _ _ _ _ _ (w.heap.size + 1) _ _ _ _ _ _ _ rfl rfl rfl rfl (HP5.out.row _ _ _ _ _ _ _)) rfl ⟨rfl, ?_, ?_⟩
  · exact RtAt.kt (ts := [31]) (b0 := base.n) ⟨_, _, _, HXq.out.below HB5.out⟩ (KT.of_keeps kr (fun q _ e => by
      obtain ⟨c0, c1, c2, c3, c4, c5, c6, e7⟩ := HP5.out
      subst e
      exact ⟨by omega, _, _, _, e7, by simp⟩) (by omega)) (by decide) (by decide) (by decide) (by decide)
  · exact (HKq.out.trans (KT.of_below HB5.out (by omega))).new kr (by omega) (by omega) (by omega)

end Go.Proofs.Ytjpojlkdogaalaa
