/-
  Layer 10: packets that come in; few; SamePacket.
-/
import Derived.Test.YtjpojlkdogaalaaTalkQ
import Derived.Deep.Slices
import Derived.ChangeSlices
import Derived.OpenShut
namespace Go.Proofs.Ytjpojlkdogaalaa
open Go.RowKit Go.ChangeShapes Go.WideShapes Go.Deep
set_option linter.unusedVariables false
set_option linter.unusedSimpArgs false

/-- What the walk is told of a packet that came in. -/
def IsPk (w : World) (v : Value) : Prop := ∃ (k : Pk) (A : Option Addr) (L C : Nat) (zs : List Int), v = .agg #[.int .u8 k.node, .int .u32 k.epoch, .int .u32 k.life, .int .u32 (k.seq : Int), .int .u32 (k.ack : Int), .bool k.plain, .slice A L C] ∧ (k.seq < 4294967296 ∧ k.ack < 4294967296) ∧ IsRow .u8 w A L C zs

set_option maxRecDepth 100000 in
set_option maxHeartbeats 1000000 in
theorem isPk_of {H : Type} {enc : TypeId × Value → H} {w : World} {base b0 : Nat} {held : Bool} {r : Reach} {v : Value} {d : DataW H} {p : List MemPlace}
    (hv : Value.okWide Try.prog w r b0 31 v) (h : DataW.Trod enc Try.prog w base (fun _ => true) held 31 v d p) : IsPk w v := by
  have hC : Try.prog.cellsOf 31 = 7 := by kernel_rfl
  have h_s_uint8 : Try.prog.cellsOf 29 = 1 := by kernel_rfl
  have h_bool : Try.prog.cellsOf 4 = 1 := by kernel_rfl
  have h_uint32 : Try.prog.cellsOf 22 = 1 := by kernel_rfl
  have h_uint8 : Try.prog.cellsOf 5 = 1 := by kernel_rfl
  obtain ⟨cs, rfl, hsz⟩ := okWide_struct Try.underlying31 hv
  rw [hC] at hsz
  obtain ⟨fuel, hf⟩ := h
  obtain ⟨xs, n', _, _, _, hxl, hfld⟩ := DataW.trod_struct Try.underlying31 hf
  obtain ⟨l⟩ := cs
  have f0 : DataW.trod enc Try.prog w base (fun _ => true) held n' 5 ((l.drop 0).take (Try.prog.cellsOf 5)) = xs[0]? := hfld 0 _ rfl
  rw [h_uint8] at f0
  have f1 : DataW.trod enc Try.prog w base (fun _ => true) held n' 22 ((l.drop 1).take (Try.prog.cellsOf 22)) = xs[1]? := hfld 1 _ rfl
  rw [h_uint32] at f1
  have f2 : DataW.trod enc Try.prog w base (fun _ => true) held n' 22 ((l.drop 2).take (Try.prog.cellsOf 22)) = xs[2]? := hfld 2 _ rfl
  rw [h_uint32] at f2
  have f3 : DataW.trod enc Try.prog w base (fun _ => true) held n' 22 ((l.drop 3).take (Try.prog.cellsOf 22)) = xs[3]? := hfld 3 _ rfl
  rw [h_uint32] at f3
  have f4 : DataW.trod enc Try.prog w base (fun _ => true) held n' 22 ((l.drop 4).take (Try.prog.cellsOf 22)) = xs[4]? := hfld 4 _ rfl
  rw [h_uint32] at f4
  have f5 : DataW.trod enc Try.prog w base (fun _ => true) held n' 4 ((l.drop 5).take (Try.prog.cellsOf 4)) = xs[5]? := hfld 5 _ rfl
  rw [h_bool] at f5
  have f6 : DataW.trod enc Try.prog w base (fun _ => true) held n' 29 ((l.drop 6).take (Try.prog.cellsOf 29)) = xs[6]? := hfld 6 _ rfl
  rw [h_s_uint8] at f6
  match l, hsz with
  | [c0, c1, c2, c3, c4, c5, c6], _ =>
    match xs, hxl with
    | [y0, y1, y2, y3, y4, y5, y6], _ =>
      obtain ⟨d0, e0, _, wf0⟩ := DataW.trod_int Try.underlying5 (show _ = some y0 from f0)
      simp at e0
      subst e0
      have b0 := bounds_u8 wf0
      obtain ⟨n0, rfl⟩ := Int.eq_ofNat_of_zero_le (show 0 ≤ d0 by omega)
      obtain ⟨d1, e1, _, wf1⟩ := DataW.trod_int Try.underlying22 (show _ = some y1 from f1)
      simp at e1
      subst e1
      have b1 := bounds_u32 wf1
      obtain ⟨n1, rfl⟩ := Int.eq_ofNat_of_zero_le (show 0 ≤ d1 by omega)
      obtain ⟨d2, e2, _, wf2⟩ := DataW.trod_int Try.underlying22 (show _ = some y2 from f2)
      simp at e2
      subst e2
      have b2 := bounds_u32 wf2
      obtain ⟨n2, rfl⟩ := Int.eq_ofNat_of_zero_le (show 0 ≤ d2 by omega)
      obtain ⟨d3, e3, _, wf3⟩ := DataW.trod_int Try.underlying22 (show _ = some y3 from f3)
      simp at e3
      subst e3
      have b3 := bounds_u32 wf3
      obtain ⟨n3, rfl⟩ := Int.eq_ofNat_of_zero_le (show 0 ≤ d3 by omega)
      obtain ⟨d4, e4, _, wf4⟩ := DataW.trod_int Try.underlying22 (show _ = some y4 from f4)
      simp at e4
      subst e4
      have b4 := bounds_u32 wf4
      obtain ⟨n4, rfl⟩ := Int.eq_ofNat_of_zero_le (show 0 ≤ d4 by omega)
      obtain ⟨d5, e5, _⟩ := DataW.trod_bool Try.underlying4 (show _ = some y5 from f5)
      simp at e5
      subst e5
      rcases open_ints Try.underlying29 Try.underlying5 h_uint8 (show _ = some y6 from f6) with ⟨e2, _⟩ | ⟨x2, l2, cp2, zs, e2, _, hl2, hm2, hz2, _, hcell2, hwz2⟩
      · simp at e2
        subst e2
        exact ⟨⟨(n0 : Int), (n1 : Int), (n2 : Int), n3, n4, d5, []⟩, none, 0, 0, [], rfl, by simp only; omega, .inl ⟨rfl, rfl, rfl, rfl⟩⟩
      · simp at e2
        subst e2
        exact ⟨⟨(n0 : Int), (n1 : Int), (n2 : Int), n3, n4, d5, []⟩, some x2, l2, cp2, zs, rfl, by simp only; omega, .inr ⟨x2, rfl, hl2, hm2, by simpa using hz2, hcell2, hwz2⟩⟩


def Pk.cut (k : Pk) (t : List UInt8) : Pk := { k with data := t }

/-- What came in, its bytes cut to K. -/
theorem IsPk.open' {w : World} {v : Value} (h : IsPk w v) (B : Nat) : ∃ (k : Pk) (A : Option Addr) (L C : Nat), v = .agg #[.int .u8 k.node, .int .u32 k.epoch, .int .u32 k.life, .int .u32 (k.seq : Int), .int .u32 (k.ack : Int), .bool k.plain, .slice A L C] ∧ (k.seq < 4294967296 ∧ k.ack < 4294967296) ∧ k.data.length ≤ B ∧ (if (B : Int) < (L : Int) then (B : Int) else (L : Int)) = (k.data.length : Int) ∧ (k.data.length : Int) ≤ (L : Int) ∧ (L : Int) ≤ (C : Int) ∧ (k.data.length : Int) ≤ (C : Int) ∧ C ≤ 9223372036854775807 ∧ Rd w (.slice A k.data.length C) k.data := by
  obtain ⟨k, A, L, C, zs, rfl, hb, hr⟩ := h
  obtain ⟨l, hl, hrd⟩ := hr.rd (min L B) (by omega)
  have hbd := hr.bounds
  refine ⟨k.cut l, A, L, C, rfl, hb, ?_, ?_, ?_, ?_, ?_, hbd.2.1, ?_⟩
  · show l.length ≤ B; omega
  · show _ = (l.length : Int); rw [hl]; split <;> omega
  · show (l.length : Int) ≤ _; omega
  · omega
  · show (l.length : Int) ≤ _; omega
  · show Rd w (.slice A l.length C) l; rw [hl]; exact hrd

set_option maxHeartbeats 4000000 in
theorem few_any (k : Pk) (A : Option Addr) (L C : Nat) (w : World) (m60 : (if (60 : Int) < (L : Int) then (60 : Int) else (L : Int)) = (k.data.length : Int)) (h1 : (k.data.length : Int) ≤ (L : Int)) (h2 : (L : Int) ≤ (C : Int)) (h3 : (k.data.length : Int) ≤ (C : Int)) (h4 : C ≤ 9223372036854775807) (hl : k.data.length ≤ 60) (hrd : Rd w (.slice A k.data.length C) k.data) :
    Calls Try.prog 18 #[.agg #[.int .u8 k.node, .int .u32 k.epoch, .int .u32 k.life, .int .u32 (k.seq : Int), .int .u32 (k.ack : Int), .bool k.plain, .slice A L C]] w fun e w' => ∃ va vc, e = .returned (.agg #[.int .u8 k.node, .int .u32 k.epoch, .int .u32 k.life, .int .u32 (k.seq : Int), .int .u32 (k.ack : Int), .bool k.plain, .slice va k.data.length vc]) ∧ Own w' w.heap.size (.slice va k.data.length vc) k.data ∧ Below w.heap.size w w' := by
  obtain ⟨w1, hw1⟩ : ∃ w1, w1 = w.alloc (.cells #[.int .u8 k.node, .int .u32 k.epoch, .int .u32 k.life, .int .u32 (k.seq : Int), .int .u32 (k.ack : Int), .bool k.plain, .slice A L C] 31) := ⟨_, rfl⟩
  obtain ⟨g1, hb1, _, _, _, _, _, _, x6⟩ := box_facts _ _ _ _ _ _ _ _ w1 hw1
  obtain ⟨w2, hw2⟩ : ∃ w2, w2 = w1.alloc (.cells #[.int .u8 0, .int .u32 0, .int .u32 0, .int .u32 0, .int .u32 0, .bool false, .slice none 0 0] 31) := ⟨_, rfl⟩
  obtain ⟨g2, hb2, _⟩ := box_facts _ _ _ _ _ _ _ _ w2 hw2
  have hs1 : w1.heap.size = w.heap.size + 1 := by rw [hw1]; simp
  have hs2 : w2.heap.size = w.heap.size + 2 := by rw [hw2]; simp [hs1]
  rw [hs1] at g2
  have x6' := (hb2.cell (p := ⟨w.heap.size, 6, none⟩) (show w.heap.size < w1.heap.size by omega)).trans x6
  have HG1 := hid ((hb2.block _ (by omega)).trans g1)
  have HG2 := hid (show PkB w2 (w.heap.size + 1) from ⟨_, _, _, _, _, _, _, g2⟩)
  have HB2 := hid (hb1.trans (hb2.mono (by omega)))
  have HW1 := hid hw1
  have HW2 := hid hw2
  have HS2 := hid hs2
  have HE := hid (Own.empty w2 w2.heap.size (Nat.le_refl _))
  have HRE := hid ((hrd.below HB2.out).alloc (.cells #[] 5))
  have x6b := (((Below.refl w2.heap.size w2).alloc (Nat.le_refl _) (.cells #[] 5)).cell (p := ⟨w.heap.size, 6, none⟩) (show w.heap.size < w2.heap.size by omega)).trans x6'
  clear g1 g2 hb1 hb2 hw1 hw2 hs1 hs2 x6 hrd
  go_enter Try.func18, Try.ntmps18
  go_upto_region 1 with (fail)
  rw [← HW1.out, ← HW2.out]
  have HAPP := hid (show ∀ w5, (w2.alloc (.cells #[] 5)).grownBy w5 (Value.slice (some ⟨w2.heap.size, 0, none⟩) 0 0).ownBlock → Below w2.heap.size w2 w5 from fun w5 hg => ((Below.refl _ _).alloc (Nat.le_refl _) _).grown hg (by simp) (fun k hk => by have := (HE.out.lt k hk).1; omega))
  go_wp2_with (first
    | (at_builtin; (refine appk rfl (.tmp 3) (.tmp 10) rfl w2.heap.size (.slice (some ⟨w2.heap.size, 0, none⟩) 0 0) _ [] k.data k.data k.data.length rfl rfl HE.out HRE.out (by simp) rfl (by simp; omega) (by simp) ?_); intro ad cp w5 ho hg
       have HO := hid ho
       have HB5 := hid (HAPP.out w5 hg)
       have HR5 := hid ((HB5.out.block w.heap.size (by have := HS2.out; omega)).trans HG1.out)
       have y6 : w5.cell? ⟨w.heap.size, 6, none⟩ = some (.slice A L C) := (cell_of_row _ _ _ _ _ _ HR5.out).trans rfl
       have z6 : w5.frozen? ⟨w.heap.size, 6, none⟩ = false := frozen_of_row _ _ _ _ _ HR5.out
       have HR6 := hid (show (w5.setCell ⟨w.heap.size, 6, none⟩ (.slice ad k.data.length cp)).heap[w.heap.size]? = some (.cells #[.int .u8 k.node, .int .u32 k.epoch, .int .u32 k.life, .int .u32 (k.seq : Int), .int .u32 (k.ack : Int), .bool k.plain, .slice ad k.data.length cp] 31 (0, 0)) by rw [heap_setCell_same _ _ _ _ _ _ HR5.out]; simp)
       have HK6 := hid (kset w5 w.heap.size 6 (.slice ad k.data.length cp))
       have HP6 := hid (show PkB (w5.setCell ⟨w.heap.size, 6, none⟩ (.slice ad k.data.length cp)) (w.heap.size + 1) from (HG2.out.below HB5.out).of (HK6.out.block _ (by have := HB5.out.size; have := HS2.out; omega) (by omega)))
       clear ho hg)
    | (refine pk_ld rfl (.tmp 1) rfl w.heap.size rfl _ _ _ _ _ _ _ HR6.out ?_)
    | (refine pk_st rfl (.tmp 2) (.tmp 13) rfl (w.heap.size + 1) _ _ _ _ _ _ _ rfl rfl HP6.out (by simp [Value.oneCell']) ?_)
    | fail)
  refine bodyPost_ret (results_pk rfl _ _ (w.heap.size + 1) _ _ _ _ _ _ _ rfl (HP6.out.row _ _ _ _ _ _ _)) rfl ⟨_, _, rfl, ?_, ?_⟩
  · have h1 := HS2.out
    have h2 := HB5.out.size
    have ho := HO.out
    have h3 : ∀ q, (Value.slice ad k.data.length cp).ownBlock = some q → w2.heap.size ≤ q ∧ q < w5.heap.size := fun q hq => ho.lt q hq
    have kr := setRow_keeps (w5.setCell ⟨w.heap.size, 6, none⟩ (.slice ad k.data.length cp)) (w.heap.size + 1) #[.int .u8 k.node, .int .u32 k.epoch, .int .u32 k.life, .int .u32 (k.seq : Int), .int .u32 (k.ack : Int), .bool k.plain, .slice ad k.data.length cp]
    exact ((ho.to (fun q hq => HK6.out.block q (h3 q hq).2 (by have := (h3 q hq).1; omega))).to (fun q hq => kr.block q (Nat.lt_of_lt_of_le (h3 q hq).2 HK6.out.size) (by have := (h3 q hq).1; omega))).base (fun q hq => by have := (h3 q hq).1; omega)
  · have h1 := HS2.out
    have hb : Below w.heap.size w w5 := HB2.out.trans (HB5.out.mono (by omega))
    have h6 : Below w.heap.size w5 (w5.setCell ⟨w.heap.size, 6, none⟩ (.slice ad k.data.length cp)) := ⟨HK6.out.os, HK6.out.tape, HK6.out.output, HK6.out.size, fun i hi => HK6.out.block i (by have := HB5.out.size; omega) (by omega)⟩
    exact (hb.trans h6).trans (setRow_below _ (Nat.le_succ _))

set_option maxHeartbeats 4000000 in
theorem samepk_eq (k : Pk) (a a' : Option Addr) (c c' : Nat) (w : World) (h1 : Rd w (.slice a k.data.length c) k.data) (h2 : Rd w (.slice a' k.data.length c') k.data) :
    Calls Try.prog 14 #[.agg #[.int .u8 k.node, .int .u32 k.epoch, .int .u32 k.life, .int .u32 (k.seq : Int), .int .u32 (k.ack : Int), .bool k.plain, .slice a k.data.length c], .agg #[.int .u8 k.node, .int .u32 k.epoch, .int .u32 k.life, .int .u32 (k.seq : Int), .int .u32 (k.ack : Int), .bool k.plain, .slice a' k.data.length c']] w fun e w' => e = .returned (.bool true) ∧ Below w.heap.size w w' := by
  obtain ⟨w1, hw1⟩ : ∃ w1, w1 = w.alloc (.cells #[.int .u8 k.node, .int .u32 k.epoch, .int .u32 k.life, .int .u32 (k.seq : Int), .int .u32 (k.ack : Int), .bool k.plain, .slice a k.data.length c] 31) := ⟨_, rfl⟩
  obtain ⟨g1, hb1, z0, z1, z2, z3, z4, z5, z6⟩ := box_facts _ _ _ _ _ _ _ _ w1 hw1
  obtain ⟨w2, hw2⟩ : ∃ w2, w2 = w1.alloc (.cells #[.int .u8 k.node, .int .u32 k.epoch, .int .u32 k.life, .int .u32 (k.seq : Int), .int .u32 (k.ack : Int), .bool k.plain, .slice a' k.data.length c'] 31) := ⟨_, rfl⟩
  obtain ⟨g2, hb2, y0, y1, y2, y3, y4, y5, y6⟩ := box_facts _ _ _ _ _ _ _ _ w2 hw2
  have hs1 : w1.heap.size = w.heap.size + 1 := by rw [hw1]; simp
  rw [hs1] at y0 y1 y2 y3 y4 y5 y6
  have hlt : w.heap.size < w1.heap.size := by omega
  have x0 := (hb2.cell (p := ⟨w.heap.size, 0, none⟩) hlt).trans z0
  have x1 := (hb2.cell (p := ⟨w.heap.size, 1, none⟩) hlt).trans z1
  have x2 := (hb2.cell (p := ⟨w.heap.size, 2, none⟩) hlt).trans z2
  have x3 := (hb2.cell (p := ⟨w.heap.size, 3, none⟩) hlt).trans z3
  have x4 := (hb2.cell (p := ⟨w.heap.size, 4, none⟩) hlt).trans z4
  have x5 := (hb2.cell (p := ⟨w.heap.size, 5, none⟩) hlt).trans z5
  have x6 := (hb2.cell (p := ⟨w.heap.size, 6, none⟩) hlt).trans z6
  have HB2 := hid (hb1.trans (hb2.mono (by omega)))
  have HW1 := hid hw1
  have HW2 := hid hw2
  have HX1 := hid (h1.below HB2.out)
  have HX2 := hid (h2.below HB2.out)
  clear g1 g2 hlt z0 z1 z2 z3 z4 z5 z6 hb1 hb2 hw1 hw2 hs1 h1 h2
  go_enter Try.func14, Try.ntmps14
  go_upto_region 1 with (fail)
  rw [← HW1.out, ← HW2.out]
  go_wp2_with (first | (go_at_call 15; refine (same_eq _ _ k.data w2 HX1.out HX2.out).mono ?_; rintro e w' ⟨rfl, rfl⟩) | fail)
  go_ret
  exact ⟨rfl, HB2.out⟩

end Go.Proofs.Ytjpojlkdogaalaa
