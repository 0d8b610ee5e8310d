/-
  Layer 10: the document's Say.
-/
import Derived.Test.YtjpojlkdogaalaaRtO
namespace Go.Proofs.Ytjpojlkdogaalaa
open Go.RowKit
set_option linter.unusedVariables false
set_option linter.unusedSimpArgs false

theorem infoBS' : (Try.prog.info? 29).map (fun i => (i.zero, i.size, i.bytes)) = some (some (.slice none 0 0), 1, 24) := by kernel_rfl
theorem infoInt' : (Try.prog.info? 3).map (fun i => (i.zero, i.size, i.bytes)) = some (some (.int .i64 0), 1, 8) := by kernel_rfl

theorem SrcC.of_rd {w : World} {v : Value} {l : List UInt8} (h : Rd w v l) : SrcC w v l.length (l.map bv) := by
  rcases h.cases with ⟨rfl, rfl⟩ | ⟨x, cap, rfl, _, _, hc⟩
  · exact .inl ⟨rfl, rfl, rfl⟩
  · refine .inr ⟨x, cap, rfl, fun j y hj => ?_⟩
    rw [List.getElem?_map] at hj
    cases hl : l[j]? with
    | none => rw [hl] at hj; cases hj
    | some z =>
      rw [hl] at hj
      simp only [Option.map_some, Option.some.injEq] at hj
      subst hj
      rw [hc j (List.getElem?_eq_some_iff.1 hl).1, List.getD_eq_getElem?_getD, hl]
      rfl

theorem kt_grown {w w' : World} {base k n : Nat} {e : TypeId} {v : Value} {xs : List Value} (ho : w.ownsRow base e k v n xs) (hg : w.grownBy w' v.ownBlock) (hb : base ≤ w.heap.size) : KT [e] base w w' := by
  refine KT.of_keeps (Keeps.of_grown hg) (fun q _ he => ?_) hb
  obtain ⟨cur, hc⟩ := owns_ty ho q he
  exact ⟨(World.ownsRow.lt ho q he).1, _, _, _, hc, by simp⟩

theorem kt_head {w : World} {base b : Nat} {cs : Array Value} {T : TypeId} (h : w.heap[b]? = some (.cells cs T (0, 0))) (hb : base ≤ b) (hw : base ≤ w.heap.size) (j : Nat) (V : Value) : KT [T] base w (w.setCell ⟨b, j, none⟩ V) :=
  KT.of_keeps (kset w b j V) (fun q _ e => by subst e; exact ⟨hb, _, _, _, h, by simp⟩) hw

set_option maxRecDepth 100000 in
set_option maxHeartbeats 8000000 in
theorem refsay_yes (base : B9) (b : Nat) (s : Tk) (va : Option Addr) (vc : Nat) (t : List UInt8) (w : World) (h : RtAt w base b s) (hb : base.n ≤ w.heap.size) (hv : Rd w (.slice va t.length vc) t) (ht1 : t.length ≤ 1984) (h1 : s.l.length < 256) (h2 : s.all.length < 1000000) (hP : ∀ k, w.heap.size ≤ k → base.P k := by intros; trivial) :
    Calls Try.prog 13 #[.pointer (some ⟨b, 0, none⟩), .slice va t.length vc] w fun e w' => ∃ xa xc, e = .returned (.tuple #[.agg #[.int .u8 s.node, .int .u32 s.epoch, .int .u32 s.life, .int .u32 ((s.all.length : Int) + 1), .int .u32 (s.heard : Int), .bool false, .slice xa t.length xc], .int .i64 0]) ∧ Own w' w.heap.size (.slice xa t.length xc) t ∧ RtAt w' base b (s.say t) ∧ KT refTs base.n w w' := by
  obtain ⟨sv, tv, PF, hh⟩ := h
  obtain ⟨⟨sa, sc, es, hsc1, hsc2⟩, ⟨ta, tc, et, htc1, htc2⟩⟩ := hh.shapes
  subst es et
  have HLL := hid s.l_len
  have hdn : s.done ≤ s.all.length := hh.ok.1
  obtain ⟨w1, hw1⟩ : ∃ w1, w1 = w.alloc (.cells #[.int .u8 0, .int .u32 0, .int .u32 0, .int .u32 0, .int .u32 0, .bool false, .slice none 0 0] 31) := ⟨_, rfl⟩
  obtain ⟨g1, hb1, _⟩ := box_facts _ _ _ _ _ _ _ _ w1 hw1
  have hs1 : w1.heap.size = w.heap.size + 1 := by rw [hw1]; simp
  have c3 := (hh.below hb1).cells.2.2.2.1
  have c6 := (hh.below hb1).cells.2.2.2.2.2.2.1
  have HWR := hid (show IntKind.i64.wrap ((s.all.length : Int) - (s.done : Int)) = (s.all.length : Int) - (s.done : Int) by rw [IntKind.wrap_i64]; omega)
  have hwr := HWR.out
  have e256 : decide ((256 : Int) ≤ (s.all.length : Int) - (s.done : Int)) = false := decide_eq_false (by have := HLL.out; omega)
  have htl : (t.length : Int) ≤ 1984 := by omega
  have HW1 := hid hw1
  have HH0 := hid hh
  have HG1 := hid (show PkB w1 w.heap.size from ⟨_, _, _, _, _, _, _, g1⟩)
  have HB1 := hid hb1
  have HS1 := hid hs1
  have HBW := hid hb
  have HV := hid hv
  have HT1 := hid ht1
  have HL1 := hid h1
  have HA2 := hid h2
  have E256 := hid e256
  clear hw1 hb1 g1 hs1 hh hb hv ht1 h1 h2 e256
  go_enter Try.func13, Try.ntmps13
  go_wp2_with fail
  rw [← HW1.out]
  have e256 := E256.out
  go_quiet (fail)
  clear hwr e256
  have ht1 := HT1.out
  have h1 := HL1.out
  have h2 := HA2.out
  go_wp2_with fail
  obtain ⟨wd, hwd⟩ : ∃ wd, wd = (w1.drewN nq).drew := ⟨_, rfl⟩
  have HBd := hid (show Below w.heap.size w wd by rw [hwd]; exact below_dr (below_behind HB1.out nq))
  have HSD := hid (show w.heap.size + 1 ≤ wd.heap.size by rw [hwd]; show w.heap.size + 1 ≤ w1.heap.size; have := HS1.out; omega)
  have HXd := hid (HH0.out.below HBd.out)
  have HPd := hid (show PkB wd w.heap.size by rw [hwd]; exact HG1.out)
  have HKwd := hid (show KT refTs base.n w wd from KT.of_below HBd.out HBW.out)
  have HBN := hid (show base.n ≤ wd.heap.size by have := HBW.out; have := HSD.out; omega)
  have HLEN := hid HXd.out.len
  have HLIST := hid HXd.out.list
  have HOWN := hid HXd.out.own
  have HLOW := hid HXd.out.low
  have HOK := hid HXd.out.ok
  have HFAR := hid HXd.out.far
  have HHwd := hid HXd.out.head
  have HSRd := hid (show wd.ownsRow base.n 29 1 (.slice sa s.all.length sc) s.all.length (PF.map (·.2)) by have := HXd.out.said; rwa [HLEN.out] at this)
  have HTRd := hid HXd.out.told
  have HRDd := hid (HV.out.below HBd.out)
  have hblt : b < wd.heap.size := HXd.out.lt
  clear c3 c6
  have HUN := hid (show ∀ (W : World) (L : Array Bool), W.heap[b]? = some (.cells #[.int .u8 s.node, .int .u32 s.epoch, .int .u32 s.life, .slice sa s.all.length sc, .slice ta s.all.length tc, .int .i64 (s.clock : Int), .int .i64 (s.done : Int), .int .u32 (s.heard : Int)] 53 (0, 0)) → UntilAll [(12, (fun w' => w'.cell? ⟨b, 3, none⟩ = some (.slice sa s.all.length sc)))] L W from by
    intro W L hW c hc _
    simp only [List.mem_cons, List.not_mem_nil, or_false] at hc
    rcases hc with rfl <;> exact (cell_of_row _ _ _ _ _ _ hW).trans rfl)
  refine Orders.begins (C := [(12, (fun w' => w'.cell? ⟨b, 3, none⟩ = some (.slice sa s.all.length sc)))]) (by kernel_rfl) ?_
  rw [← hwd]
  clear hwd
  refine Orders.take (fun _ => True) [] (i := 0) (v := ?_) rfl (by kernel_rfl) (by kernel_rfl) (by kernel_rfl) (fun _ _ _ h => h) (by kernel_rfl) (fun _ _ _ _ => trivial) (by kernel_rfl) (by kernel_rfl) (Or.inl ⟨by rfl, ?_⟩) (HUN.out _ _ HHwd.out) (fun HU => ?_)
  rotate_left
  · intro u hSw
    try dsimp only at hSw
    go_simp
    try (with_reducible rfl)
  clear HU
  try simp only [Act.put, List.getElem_toArray, List.getElem_cons_succ, List.getElem_cons_zero, List.setIfInBounds_toArray, List.set_cons_zero, List.set_cons_succ]
  refine Orders.take (fun _ => True) [] (i := 1) (v := ?_) rfl (by kernel_rfl) (by kernel_rfl) (by kernel_rfl) (fun _ _ _ h => h) (by kernel_rfl) (fun _ _ _ _ => trivial) (by kernel_rfl) (by kernel_rfl) (Or.inl ⟨by rfl, ?_⟩) (HUN.out _ _ HHwd.out) (fun HU => ?_)
  rotate_left
  · intro u hSw
    try dsimp only at hSw
    go_simp
    try (with_reducible rfl)
  clear HU
  try simp only [Act.put, List.getElem_toArray, List.getElem_cons_succ, List.getElem_cons_zero, List.setIfInBounds_toArray, List.set_cons_zero, List.set_cons_succ]
  refine Orders.take (fun _ => True) [] (i := 2) (v := ?_) rfl (by kernel_rfl) (by kernel_rfl) (by kernel_rfl) (fun _ _ _ h => h) (by kernel_rfl) (fun _ _ _ _ => trivial) (by kernel_rfl) (by kernel_rfl) (Or.inl ⟨by rfl, ?_⟩) (HUN.out _ _ HHwd.out) (fun HU => ?_)
  rotate_left
  · intro u hSw
    try dsimp only at hSw
    go_simp
    try (with_reducible rfl)
  clear HU
  try simp only [Act.put, List.getElem_toArray, List.getElem_cons_succ, List.getElem_cons_zero, List.setIfInBounds_toArray, List.set_cons_zero, List.set_cons_succ]
  refine Orders.take (fun _ => True) [] (i := 3) (v := ?_) rfl (by kernel_rfl) (by kernel_rfl) (by kernel_rfl) (fun _ _ _ h => h) (by kernel_rfl) (fun _ _ _ _ => trivial) (by kernel_rfl) (by kernel_rfl) (Or.inl ⟨by rfl, ?_⟩) (HUN.out _ _ HHwd.out) (fun HU => ?_)
  rotate_left
  · intro u hSw
    try dsimp only at hSw
    go_simp
    try (with_reducible rfl)
  clear HU
  try simp only [Act.put, List.getElem_toArray, List.getElem_cons_succ, List.getElem_cons_zero, List.setIfInBounds_toArray, List.set_cons_zero, List.set_cons_succ]
  refine Orders.take (fun w' => w'.cell? ⟨b, 3, none⟩ = some (.slice sa s.all.length sc)) [12] (i := 4) (v := ?_) rfl (by kernel_rfl) (by kernel_rfl) (by kernel_rfl) (fun _ _ _ h => h) (by kernel_rfl) (fun L u hd h => h (12, (fun w' => w'.cell? ⟨b, 3, none⟩ = some (.slice sa s.all.length sc))) (by simp) (hd 12 (by simp))) (by kernel_rfl) (by kernel_rfl) (Or.inl ⟨by rfl, ?_⟩) (HUN.out _ _ HHwd.out) (fun HU => ?_)
  rotate_left
  · intro u hSw
    try dsimp only at hSw
    go_simp
    try (with_reducible rfl)
  clear HU
  try simp only [Act.put, List.getElem_toArray, List.getElem_cons_succ, List.getElem_cons_zero, List.setIfInBounds_toArray, List.set_cons_zero, List.set_cons_succ]
  refine Orders.take (fun _ => True) [] (i := 6) (v := ?_) rfl (by kernel_rfl) (by kernel_rfl) (by kernel_rfl) (fun _ _ _ h => h) (by kernel_rfl) (fun _ _ _ _ => trivial) (by kernel_rfl) (by kernel_rfl) (Or.inl ⟨by rfl, ?_⟩) (HUN.out _ _ HHwd.out) (fun HU => ?_)
  rotate_left
  · intro u hSw
    try dsimp only at hSw
    go_simp
    try (with_reducible rfl)
  clear HU
  try simp only [Act.put, List.getElem_toArray, List.getElem_cons_succ, List.getElem_cons_zero, List.setIfInBounds_toArray, List.set_cons_zero, List.set_cons_succ]
  refine Orders.one (i := 5) (by kernel_rfl) rfl (fun K hK => ?_)
  go_simp
  obtain ⟨w3, hw3⟩ : ∃ w3, w3 = wd.alloc (.cells #[] 5) := ⟨_, rfl⟩
  rw [← hw3]
  have HB3 := hid (show Below wd.heap.size wd w3 by rw [hw3]; exact (Below.refl _ _).alloc (Nat.le_refl _) _)
  have HE3 := hid (show Own w3 wd.heap.size (.slice (some ⟨wd.heap.size, 0, none⟩) 0 0) [] by rw [hw3]; exact Own.empty wd wd.heap.size (Nat.le_refl _))
  have HH3 := hid ((HB3.out.block b hblt).trans HHwd.out)
  have HRD3 := hid (HRDd.out.below HB3.out)
  clear hw3
  refine hK.out _ _ (HUN.out _ _ HH3.out) (fun HU => ?_)
  clear hK K HU
  try simp only [Act.put, List.getElem_toArray, List.getElem_cons_succ, List.getElem_cons_zero, List.setIfInBounds_toArray, List.set_cons_zero, List.set_cons_succ]
  refine Orders.one (i := 7) (by kernel_rfl) rfl (fun K hK => ?_)
  refine appsst (by rfl) 29 5 (.tmp 30) (.tmp 31) rfl wd.heap.size 1 1 _ Try.underlying29 Try.infoU8 rfl (by decide) (.slice (some ⟨wd.heap.size, 0, none⟩) 0 0) (.slice va t.length vc) 0 t.length t.length [] (t.map bv) rfl rfl HE3.out (SrcC.of_rd HRD3.out) (by simp) (fun y hy => by obtain ⟨z, _, rfl⟩ := List.mem_map.1 hy; rfl) (by omega) (by omega) (by omega) HB3.out.size ?_
  intro xa xc w4 hr4 hg4
  rw [List.nil_append] at hr4
  have HO4 := hid (show Own w4 wd.heap.size (.slice xa t.length xc) t from hr4)
  have HB4 := hid (show Below wd.heap.size wd w4 from HB3.out.grown hg4 HB3.out.size (fun k hk => (HE3.out.lt k hk).1))
  have HH4 := hid ((HB4.out.block b hblt).trans HHwd.out)
  clear hr4 hg4
  refine hK.out _ _ (HUN.out _ _ HH4.out) (fun HU => ?_)
  clear hK K HU
  try simp only [Act.put, List.getElem_toArray, List.getElem_cons_succ, List.getElem_cons_zero, List.setIfInBounds_toArray, List.set_cons_zero, List.set_cons_succ]
  refine Orders.one (i := 8) (by kernel_rfl) rfl (fun K hK => ?_)
  go_simp
  obtain ⟨w5, hw5⟩ : ∃ w5, w5 = w4.alloc (.cells #[.slice xa t.length xc] 29) := ⟨_, rfl⟩
  rw [← hw5]
  have hb5 : Below w4.heap.size w4 w5 := by rw [hw5]; exact (Below.refl _ _).alloc (Nat.le_refl _) _
  have HL5 := hid (show SrcC w5 (.slice (some ⟨w4.heap.size, 0, none⟩) 1 1) 1 [.slice xa t.length xc] by rw [hw5]; exact SrcC.lit w4 #[.slice xa t.length xc] 29 1 _ rfl)
  have HB5 := hid (HB4.out.trans (hb5.mono HB4.out.size))
  have HO5 := hid (HO4.out.below hb5)
  have HH5 := hid ((HB5.out.block b hblt).trans HHwd.out)
  have HSR5 := hid (owns_below HSRd.out HB5.out)
  clear hw5 hb5
  refine hK.out _ _ (HUN.out _ _ HH5.out) (fun HU => ?_)
  clear hK K HU
  try simp only [Act.put, List.getElem_toArray, List.getElem_cons_succ, List.getElem_cons_zero, List.setIfInBounds_toArray, List.set_cons_zero, List.set_cons_succ]
  refine Orders.one (i := 9) (by kernel_rfl) rfl (fun K hK => ?_)
  refine appsst (by rfl) 50 29 (.tmp 29) (.tmp 33) rfl base.n 1 24 _ Try.underlying50 infoBS' rfl (by decide) (.slice sa s.all.length sc) (.slice (some ⟨w4.heap.size, 0, none⟩) 1 1) s.all.length 1 (s.all.length + 1) (PF.map (·.2)) _ rfl rfl HSR5.out HL5.out rfl (by simp [Value.oneCell']) rfl (by omega) (by omega) (Nat.le_trans HBN.out HB5.out.size) ?_
  intro ad cp w6 hr6 hg6
  have HK6 := hid (kt_grown HSR5.out hg6 (Nat.le_trans HBN.out HB5.out.size))
  have HR6 := hid hr6
  have HH6 := hid (HK6.out.block HH5.out (by decide))
  have HO6 := hid (HO5.out.kt HK6.out (by decide))
  have c3 : w6.cell? ⟨b, 3, none⟩ = some (.slice sa s.all.length sc) := (cell_of_row _ _ _ _ _ _ HH6.out).trans rfl
  have f3 : w6.frozen? ⟨b, 3, none⟩ = false := frozen_of_row _ _ _ _ _ HH6.out
  clear hr6 hg6
  refine hK.out _ _ (HUN.out _ _ HH6.out) (fun HU => ?_)
  clear hK K HU
  try simp only [Act.put, List.getElem_toArray, List.getElem_cons_succ, List.getElem_cons_zero, List.setIfInBounds_toArray, List.set_cons_zero, List.set_cons_succ]
  refine Orders.take (fun _ => True) [] (i := 10) (v := ?_) rfl (by kernel_rfl) (by kernel_rfl) (by kernel_rfl) (fun _ _ _ h => h) (by kernel_rfl) (fun _ _ _ _ => trivial) (by kernel_rfl) (by kernel_rfl) (Or.inl ⟨by rfl, ?_⟩) (HUN.out _ _ HH6.out) (fun HU => ?_)
  rotate_left
  · intro u hSw
    try dsimp only at hSw
    go_simp
    try (with_reducible rfl)
  clear HU
  try simp only [Act.put, List.getElem_toArray, List.getElem_cons_succ, List.getElem_cons_zero, List.setIfInBounds_toArray, List.set_cons_zero, List.set_cons_succ]
  refine Orders.take (fun _ => True) [] (i := 11) (v := ?_) rfl (by kernel_rfl) (by kernel_rfl) (by kernel_rfl) (fun _ _ _ h => h) (by kernel_rfl) (fun _ _ _ _ => trivial) (by kernel_rfl) (by kernel_rfl) (Or.inl ⟨by rfl, ?_⟩) (HUN.out _ _ HH6.out) (fun HU => ?_)
  rotate_left
  · intro u hSw
    try dsimp only at hSw
    go_simp
    try (with_reducible rfl)
  clear HU
  try simp only [Act.put, List.getElem_toArray, List.getElem_cons_succ, List.getElem_cons_zero, List.setIfInBounds_toArray, List.set_cons_zero, List.set_cons_succ]
  refine Orders.one (i := 12) (by kernel_rfl) rfl (fun K hK => ?_)
  go_simp
  refine hK.out _ _ ?_ (fun HU => ?_)
  · intro c hc hl
    simp only [List.mem_cons, List.not_mem_nil, or_false] at hc
    rcases hc with rfl <;> exact absurd hl (fun h => Bool.noConfusion (h.symm.trans (by kernel_rfl : _ = true)))
  clear hK K HU
  try simp only [Act.put, List.getElem_toArray, List.getElem_cons_succ, List.getElem_cons_zero, List.setIfInBounds_toArray, List.set_cons_zero, List.set_cons_succ]
  refine Orders.ends (by kernel_rfl) ?_ _
  obtain ⟨w7, hw7⟩ : ∃ w7, w7 = w6.setCell ⟨b, 3, none⟩ (.slice ad (s.all.length + 1) cp) := ⟨_, rfl⟩
  rw [← hw7]
  have HH7 := hid (show w7.heap[b]? = some (.cells #[.int .u8 s.node, .int .u32 s.epoch, .int .u32 s.life, .slice ad (s.all.length + 1) cp, .slice ta s.all.length tc, .int .i64 (s.clock : Int), .int .i64 (s.done : Int), .int .u32 (s.heard : Int)] 53 (0, 0)) by rw [hw7, heap_setCell_same _ _ _ _ _ _ HH6.out]; simp)
  have HK67 := hid (show KT [53] base.n w6 w7 by rw [hw7]; exact kt_head HH6.out HLOW.out (by have := HK6.out.size; have := HB5.out.size; have := HBN.out; omega) _ _)
  have HK7 := hid (show KT refTs base.n w w7 from ((HKwd.out.trans (KT.of_below HB5.out HBN.out)).trans (HK6.out.mono (fun t ht => by simp only [List.mem_singleton] at ht; rw [ht]; simp) (Nat.le_refl _))).trans (HK67.out.mono (fun t ht => by simp only [List.mem_singleton] at ht; rw [ht]; simp) (Nat.le_refl _)))
  have HR7 := hid (owns_kt HR6.out HK67.out (by decide))
  have HO7 := hid (HO6.out.kt HK67.out (by decide))
  have HT7 := hid (owns_kt (owns_kt (owns_below HTRd.out HB5.out) HK6.out (by decide)) HK67.out (by decide))
  have HOW7 := hid (show ∀ x ∈ PF, Own w7 base.n x.2 x.1.t from fun x hx => (((HOWN.out x hx).below HB5.out).kt HK6.out (by decide)).kt HK67.out (by decide))
  have HP7 := hid ((HPd.out.kt (KT.of_below (ts := []) HB5.out (Nat.le_refl _)) (by simp)).kt HK6.out (by decide) |>.kt HK67.out (by decide))
  have HS7 := hid (show wd.heap.size ≤ w7.heap.size from Nat.le_trans HB5.out.size (Nat.le_trans HK6.out.size HK67.out.size))
  clear hw7
  clear c3 f3
  go_wp2_with fail
  have HUN8 := hid (show ∀ (W : World) (L : Array Bool), W.heap[b]? = some (.cells #[.int .u8 s.node, .int .u32 s.epoch, .int .u32 s.life, .slice ad (s.all.length + 1) cp, .slice ta s.all.length tc, .int .i64 (s.clock : Int), .int .i64 (s.done : Int), .int .u32 (s.heard : Int)] 53 (0, 0)) → UntilAll [(13, (fun w' => w'.cell? ⟨b, 4, none⟩ = some (.slice ta s.all.length tc))), (13, (fun w' => w'.cell? ⟨b, 5, none⟩ = some (.int .i64 (s.clock : Int))))] L W from by
    intro W L hW c hc _
    simp only [List.mem_cons, List.not_mem_nil, or_false] at hc
    rcases hc with rfl | rfl <;> exact (cell_of_row _ _ _ _ _ _ hW).trans rfl)
  obtain ⟨we, hwe⟩ : ∃ we, we = w7.drew := ⟨_, rfl⟩
  have HHe := hid (show we.heap[b]? = some (.cells #[.int .u8 s.node, .int .u32 s.epoch, .int .u32 s.life, .slice ad (s.all.length + 1) cp, .slice ta s.all.length tc, .int .i64 (s.clock : Int), .int .i64 (s.done : Int), .int .u32 (s.heard : Int)] 53 (0, 0)) by rw [hwe]; exact HH7.out)
  have HTe := hid (show we.ownsRow base.n 3 1 (.slice ta s.all.length tc) s.all.length (PF.map rtold) by rw [hwe]; have := HT7.out; rwa [HLEN.out] at this)
  have HKe := hid (show KT refTs base.n w we by rw [hwe]; exact HK7.out.drew)
  have HBe := hid (show Below w7.heap.size w7 we by rw [hwe]; exact below_dr (Below.refl _ _))
  have hbe : b < we.heap.size := (Array.getElem?_eq_some_iff.1 HHe.out).1
  refine Orders.begins (C := [(13, (fun w' => w'.cell? ⟨b, 4, none⟩ = some (.slice ta s.all.length tc))), (13, (fun w' => w'.cell? ⟨b, 5, none⟩ = some (.int .i64 (s.clock : Int))))]) (by kernel_rfl) ?_
  rw [← hwe]
  clear hwe
  refine Orders.take (fun _ => True) [] (i := 0) (v := ?_) rfl (by kernel_rfl) (by kernel_rfl) (by kernel_rfl) (fun _ _ _ h => h) (by kernel_rfl) (fun _ _ _ _ => trivial) (by kernel_rfl) (by kernel_rfl) (Or.inl ⟨by rfl, ?_⟩) (HUN8.out _ _ HHe.out) (fun HU => ?_)
  rotate_left
  · intro u hSw
    try dsimp only at hSw
    go_simp
    try (with_reducible rfl)
  clear HU
  try simp only [Act.put, List.getElem_toArray, List.getElem_cons_succ, List.getElem_cons_zero, List.setIfInBounds_toArray, List.set_cons_zero, List.set_cons_succ]
  refine Orders.take (fun _ => True) [] (i := 1) (v := ?_) rfl (by kernel_rfl) (by kernel_rfl) (by kernel_rfl) (fun _ _ _ h => h) (by kernel_rfl) (fun _ _ _ _ => trivial) (by kernel_rfl) (by kernel_rfl) (Or.inl ⟨by rfl, ?_⟩) (HUN8.out _ _ HHe.out) (fun HU => ?_)
  rotate_left
  · intro u hSw
    try dsimp only at hSw
    go_simp
    try (with_reducible rfl)
  clear HU
  try simp only [Act.put, List.getElem_toArray, List.getElem_cons_succ, List.getElem_cons_zero, List.setIfInBounds_toArray, List.set_cons_zero, List.set_cons_succ]
  refine Orders.take (fun _ => True) [] (i := 2) (v := ?_) rfl (by kernel_rfl) (by kernel_rfl) (by kernel_rfl) (fun _ _ _ h => h) (by kernel_rfl) (fun _ _ _ _ => trivial) (by kernel_rfl) (by kernel_rfl) (Or.inl ⟨by rfl, ?_⟩) (HUN8.out _ _ HHe.out) (fun HU => ?_)
  rotate_left
  · intro u hSw
    try dsimp only at hSw
    go_simp
    try (with_reducible rfl)
  clear HU
  try simp only [Act.put, List.getElem_toArray, List.getElem_cons_succ, List.getElem_cons_zero, List.setIfInBounds_toArray, List.set_cons_zero, List.set_cons_succ]
  refine Orders.take (fun _ => True) [] (i := 3) (v := ?_) rfl (by kernel_rfl) (by kernel_rfl) (by kernel_rfl) (fun _ _ _ h => h) (by kernel_rfl) (fun _ _ _ _ => trivial) (by kernel_rfl) (by kernel_rfl) (Or.inl ⟨by rfl, ?_⟩) (HUN8.out _ _ HHe.out) (fun HU => ?_)
  rotate_left
  · intro u hSw
    try dsimp only at hSw
    go_simp
    try (with_reducible rfl)
  clear HU
  try simp only [Act.put, List.getElem_toArray, List.getElem_cons_succ, List.getElem_cons_zero, List.setIfInBounds_toArray, List.set_cons_zero, List.set_cons_succ]
  refine Orders.take (fun w' => w'.cell? ⟨b, 4, none⟩ = some (.slice ta s.all.length tc)) [13] (i := 4) (v := ?_) rfl (by kernel_rfl) (by kernel_rfl) (by kernel_rfl) (fun _ _ _ h => h) (by kernel_rfl) (fun L u hd h => h (13, (fun w' => w'.cell? ⟨b, 4, none⟩ = some (.slice ta s.all.length tc))) (by simp) (hd 13 (by simp))) (by kernel_rfl) (by kernel_rfl) (Or.inl ⟨by rfl, ?_⟩) (HUN8.out _ _ HHe.out) (fun HU => ?_)
  rotate_left
  · intro u hSw
    try dsimp only at hSw
    go_simp
    try (with_reducible rfl)
  clear HU
  try simp only [Act.put, List.getElem_toArray, List.getElem_cons_succ, List.getElem_cons_zero, List.setIfInBounds_toArray, List.set_cons_zero, List.set_cons_succ]
  refine Orders.take (fun _ => True) [] (i := 5) (v := ?_) rfl (by kernel_rfl) (by kernel_rfl) (by kernel_rfl) (fun _ _ _ h => h) (by kernel_rfl) (fun _ _ _ _ => trivial) (by kernel_rfl) (by kernel_rfl) (Or.inl ⟨by rfl, ?_⟩) (HUN8.out _ _ HHe.out) (fun HU => ?_)
  rotate_left
  · intro u hSw
    try dsimp only at hSw
    go_simp
    try (with_reducible rfl)
  clear HU
  try simp only [Act.put, List.getElem_toArray, List.getElem_cons_succ, List.getElem_cons_zero, List.setIfInBounds_toArray, List.set_cons_zero, List.set_cons_succ]
  refine Orders.take (fun _ => True) [] (i := 6) (v := ?_) rfl (by kernel_rfl) (by kernel_rfl) (by kernel_rfl) (fun _ _ _ h => h) (by kernel_rfl) (fun _ _ _ _ => trivial) (by kernel_rfl) (by kernel_rfl) (Or.inl ⟨by rfl, ?_⟩) (HUN8.out _ _ HHe.out) (fun HU => ?_)
  rotate_left
  · intro u hSw
    try dsimp only at hSw
    go_simp
    try (with_reducible rfl)
  clear HU
  try simp only [Act.put, List.getElem_toArray, List.getElem_cons_succ, List.getElem_cons_zero, List.setIfInBounds_toArray, List.set_cons_zero, List.set_cons_succ]
  refine Orders.take (fun _ => True) [] (i := 7) (v := ?_) rfl (by kernel_rfl) (by kernel_rfl) (by kernel_rfl) (fun _ _ _ h => h) (by kernel_rfl) (fun _ _ _ _ => trivial) (by kernel_rfl) (by kernel_rfl) (Or.inl ⟨by rfl, ?_⟩) (HUN8.out _ _ HHe.out) (fun HU => ?_)
  rotate_left
  · intro u hSw
    try dsimp only at hSw
    go_simp
    try (with_reducible rfl)
  clear HU
  try simp only [Act.put, List.getElem_toArray, List.getElem_cons_succ, List.getElem_cons_zero, List.setIfInBounds_toArray, List.set_cons_zero, List.set_cons_succ]
  refine Orders.take (fun w' => w'.cell? ⟨b, 5, none⟩ = some (.int .i64 (s.clock : Int))) [13] (i := 8) (v := ?_) rfl (by kernel_rfl) (by kernel_rfl) (by kernel_rfl) (fun _ _ _ h => h) (by kernel_rfl) (fun L u hd h => h (13, (fun w' => w'.cell? ⟨b, 5, none⟩ = some (.int .i64 (s.clock : Int)))) (by simp) (hd 13 (by simp))) (by kernel_rfl) (by kernel_rfl) (Or.inl ⟨by rfl, ?_⟩) (HUN8.out _ _ HHe.out) (fun HU => ?_)
  rotate_left
  · intro u hSw
    try dsimp only at hSw
    go_simp
    try (with_reducible rfl)
  clear HU
  try simp only [Act.put, List.getElem_toArray, List.getElem_cons_succ, List.getElem_cons_zero, List.setIfInBounds_toArray, List.set_cons_zero, List.set_cons_succ]
  refine Orders.one (i := 9) (by kernel_rfl) rfl (fun K hK => ?_)
  go_simp
  obtain ⟨w8, hw8⟩ : ∃ w8, w8 = we.alloc (.cells #[.int .i64 (s.clock : Int)] 3) := ⟨_, rfl⟩
  rw [← hw8]
  have HB8 := hid (show Below we.heap.size we w8 by rw [hw8]; exact (Below.refl _ _).alloc (Nat.le_refl _) _)
  have HL8 := hid (show SrcC w8 (.slice (some ⟨we.heap.size, 0, none⟩) 1 1) 1 [.int .i64 (s.clock : Int)] by rw [hw8]; exact SrcC.lit we #[.int .i64 (s.clock : Int)] 3 1 _ rfl)
  have HH8 := hid ((HB8.out.block b hbe).trans HHe.out)
  have HT8 := hid (owns_below HTe.out HB8.out)
  clear hw8
  refine hK.out _ _ (HUN8.out _ _ HH8.out) (fun HU => ?_)
  clear hK K HU
  try simp only [Act.put, List.getElem_toArray, List.getElem_cons_succ, List.getElem_cons_zero, List.setIfInBounds_toArray, List.set_cons_zero, List.set_cons_succ]
  refine Orders.one (i := 10) (by kernel_rfl) rfl (fun K hK => ?_)
  refine appsst (by rfl) 51 3 (.tmp 41) (.tmp 46) rfl base.n 1 8 _ Try.underlying51 infoInt' rfl (by decide) (.slice ta s.all.length tc) (.slice (some ⟨we.heap.size, 0, none⟩) 1 1) s.all.length 1 (s.all.length + 1) (PF.map rtold) _ rfl rfl HT8.out HL8.out rfl (by simp [Value.oneCell']) rfl (by omega) (by omega) (by have := HB8.out.size; have := HKe.out.size; have := HBW.out; omega) ?_
  intro ad4 cp4 w9 hr9 hg9
  have HK9 := hid (kt_grown HT8.out hg9 (by have := HB8.out.size; have := HKe.out.size; have := HBW.out; omega))
  have HR9 := hid hr9
  have HH9 := hid (HK9.out.block HH8.out (by decide))
  have c4 : w9.cell? ⟨b, 4, none⟩ = some (.slice ta s.all.length tc) := (cell_of_row _ _ _ _ _ _ HH9.out).trans rfl
  have f4 : w9.frozen? ⟨b, 4, none⟩ = false := frozen_of_row _ _ _ _ _ HH9.out
  clear hr9 hg9
  refine hK.out _ _ (HUN8.out _ _ HH9.out) (fun HU => ?_)
  clear hK K HU
  try simp only [Act.put, List.getElem_toArray, List.getElem_cons_succ, List.getElem_cons_zero, List.setIfInBounds_toArray, List.set_cons_zero, List.set_cons_succ]
  refine Orders.take (fun _ => True) [] (i := 11) (v := ?_) rfl (by kernel_rfl) (by kernel_rfl) (by kernel_rfl) (fun _ _ _ h => h) (by kernel_rfl) (fun _ _ _ _ => trivial) (by kernel_rfl) (by kernel_rfl) (Or.inl ⟨by rfl, ?_⟩) (HUN8.out _ _ HH9.out) (fun HU => ?_)
  rotate_left
  · intro u hSw
    try dsimp only at hSw
    go_simp
    try (with_reducible rfl)
  clear HU
  try simp only [Act.put, List.getElem_toArray, List.getElem_cons_succ, List.getElem_cons_zero, List.setIfInBounds_toArray, List.set_cons_zero, List.set_cons_succ]
  refine Orders.take (fun _ => True) [] (i := 12) (v := ?_) rfl (by kernel_rfl) (by kernel_rfl) (by kernel_rfl) (fun _ _ _ h => h) (by kernel_rfl) (fun _ _ _ _ => trivial) (by kernel_rfl) (by kernel_rfl) (Or.inl ⟨by rfl, ?_⟩) (HUN8.out _ _ HH9.out) (fun HU => ?_)
  rotate_left
  · intro u hSw
    try dsimp only at hSw
    go_simp
    try (with_reducible rfl)
  clear HU
  try simp only [Act.put, List.getElem_toArray, List.getElem_cons_succ, List.getElem_cons_zero, List.setIfInBounds_toArray, List.set_cons_zero, List.set_cons_succ]
  refine Orders.one (i := 13) (by kernel_rfl) rfl (fun K hK => ?_)
  go_simp
  refine hK.out _ _ ?_ (fun HU => ?_)
  · intro c hc hl
    simp only [List.mem_cons, List.not_mem_nil, or_false] at hc
    rcases hc with rfl | rfl <;> exact absurd hl (fun h => Bool.noConfusion (h.symm.trans (by kernel_rfl : _ = true)))
  clear hK K HU
  try simp only [Act.put, List.getElem_toArray, List.getElem_cons_succ, List.getElem_cons_zero, List.setIfInBounds_toArray, List.set_cons_zero, List.set_cons_succ]
  refine Orders.ends (by kernel_rfl) ?_ _
  obtain ⟨wf, hwf⟩ : ∃ wf, wf = w9.setCell ⟨b, 4, none⟩ (.slice ad4 (s.all.length + 1) cp4) := ⟨_, rfl⟩
  rw [← hwf]
  have HHf := hid (show wf.heap[b]? = some (.cells #[.int .u8 s.node, .int .u32 s.epoch, .int .u32 s.life, .slice ad (s.all.length + 1) cp, .slice ad4 (s.all.length + 1) cp4, .int .i64 (s.clock : Int), .int .i64 (s.done : Int), .int .u32 (s.heard : Int)] 53 (0, 0)) by rw [hwf, heap_setCell_same _ _ _ _ _ _ HH9.out]; simp)
  have HK9f := hid (show KT [53] base.n w9 wf by rw [hwf]; exact kt_head HH9.out HLOW.out (by have := HK9.out.size; have := HB8.out.size; have := HKe.out.size; have := HBW.out; omega) _ _)
  have HKSTEP := hid (show KT [53, 3] base.n w7 wf from (((KT.of_below HBe.out (by have := HS7.out; have := HBN.out; omega)).trans (KT.of_below HB8.out (by have := HKe.out.size; have := HBW.out; omega))).trans (HK9.out.mono (fun t ht => by simp only [List.mem_singleton] at ht; rw [ht]; simp) (Nat.le_refl _))).trans (HK9f.out.mono (fun t ht => by simp only [List.mem_singleton] at ht; rw [ht]; simp) (Nat.le_refl _)))
  have HKf := hid (show KT refTs base.n w wf from HK7.out.trans (HKSTEP.out.mono (fun t ht => by simp only [List.mem_cons, List.not_mem_nil, or_false] at ht; rcases ht with rfl | rfl <;> simp) (Nat.le_refl _)))
  have HXf := hid (show RtV wf base b (s.say t) (.slice ad (s.all.length + 1) cp) (.slice ad4 (s.all.length + 1) cp4) (PF ++ [(⟨t, s.clock⟩, .slice xa t.length xc)]) from ⟨by rw [HHf.out]; simp [Tk.say], by
      rw [List.length_append, HLEN.out, List.map_append]
      have := owns_kt HR7.out HKSTEP.out (by decide)
      exact this, by
      rw [List.length_append, HLEN.out, List.map_append]
      exact owns_kt HR9.out HK9f.out (by decide), by
      show s.all ++ _ = _
      rw [HLIST.out, List.map_append]
      rfl, fun x hx => by
      rcases List.mem_append.1 hx with hx | hx
      · exact (HOW7.out x hx).kt HKSTEP.out (by decide)
      · simp only [List.mem_singleton] at hx
        subst hx
        exact (HO7.out.kt HKSTEP.out (by decide)).base (fun k hk => Nat.le_trans HBN.out (HO7.out.lt k hk).1), HLOW.out, Tk.ok_say HOK.out t (by have := HLL.out; omega) h2 ht1, fun x hx k hk => by
      rcases List.mem_append.1 hx with hx | hx
      · exact HFAR.out x hx k hk
      · simp only [List.mem_singleton] at hx
        subst hx
        exact hP k (by have := (HO7.out.lt k hk).1; have := HSD.out; omega)⟩)
  have HPf := hid (HP7.out.kt HKSTEP.out (by decide))
  have HSf := hid (show wd.heap.size ≤ wf.heap.size from Nat.le_trans HS7.out HKSTEP.out.size)
  have y3 : wf.cell? ⟨b, 3, none⟩ = some (.slice ad (s.all.length + 1) cp) := (cell_of_row _ _ _ _ _ _ HHf.out).trans rfl
  clear hwf
  clear c4 f4
  go_wp2_with fail
  refine (refpacket_some base b s.all.length (s.say t) ⟨t, s.clock⟩ wf ⟨_, _, _, HXf.out⟩ (by simp [Tk.say])).mono ?_
  rintro e wg ⟨xb, xe, rfl, ho, hbg⟩
  have HOg := hid ho
  have HBg := hid hbg
  have HPg := hid (HPf.out.below hbg)
  clear ho hbg
  go_wp2_with (first | (refine pk_st rfl (.tmp 4) (.tmp 57) rfl w.heap.size (.int .u8 s.node) (.int .u32 s.epoch) (.int .u32 s.life) (.int .u32 ((s.all.length : Int) + 1)) (.int .u32 (s.heard : Int)) (.bool false) (.slice xb t.length xe) rfl rfl HPg.out (by simp [Value.oneCell']) ?_) | fail)
  have kr := setRow_keeps wg w.heap.size #[.int .u8 s.node, .int .u32 s.epoch, .int .u32 s.life, .int .u32 ((s.all.length : Int) + 1), .int .u32 (s.heard : Int), .bool false, .slice xb t.length xe]
  have h1 := HSD.out
  have h2 := HSf.out
  refine bodyPost_ret (results_pk2 rfl _ _ _ w.heap.size _ _ _ _ _ _ _ rfl rfl (HPg.out.row _ _ _ _ _ _ _)) rfl ⟨xb, xe, rfl, ?_, ?_, ?_⟩
  · exact (HOg.out.to (fun k hk => kr.block k (HOg.out.lt k hk).2 (by have := (HOg.out.lt k hk).1; omega))).base (fun k hk => by have := (HOg.out.lt k hk).1; omega)
  · exact RtAt.kt (ts := [31]) (b0 := base.n) ⟨_, _, _, HXf.out.below HBg.out⟩ (KT.of_keeps kr (fun k _ e => by
      obtain ⟨c0, c1, c2, c3, c4, c5, c6, e7⟩ := HPg.out
      subst e
      exact ⟨HBW.out, _, _, _, e7, by simp⟩) (by have := HBW.out; have := HBg.out.size; omega)) (by decide) (by decide) (by decide) (by decide)
  · exact (HKf.out.trans (KT.of_below HBg.out (by have := HBW.out; omega))).new kr (Nat.le_refl _) HBW.out (by have := HBg.out.size; omega)

end Go.Proofs.Ytjpojlkdogaalaa
