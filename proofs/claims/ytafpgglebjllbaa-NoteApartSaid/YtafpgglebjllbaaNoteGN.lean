/-
  The readers: contracts.
-/
import Derived.Test.YtafpgglebjllbaaNoteC
import Derived.Test.YtafpgglebjllbaaNoteP
import Derived.Test.YtafpgglebjllbaaNoteR
import Derived.Test.YtafpgglebjllbaaRefText
import Derived.Test.YtafpgglebjllbaaUntie
import Derived.Laws.Rows
import Derived.Laws.Tables
import Derived.Laws.ResultCell
import Derived.Test.YtafpgglebjllbaaNoteRN
import Derived.Test.YtafpgglebjllbaaNoteG
namespace Go.Proofs.Ytafpgglebjllbaa
open Go.RowKit
open Note (K St stepK run)

theorem size_note : (Try.prog.info? 25).map (·.size) = some 13 := by kernel_rfl

theorem note_zero_wf : Note.N.zero.wf := (by unfold Note.N.wf Note.N.zero; simp)

set_option maxRecDepth 100000 in
set_option maxHeartbeats 2000000 in
theorem rgnote_err (pv : Value) (l : List UInt8) (w : World) (hrd : Rd w pv l) (hl : l.length ≤ 100000) (hu : Knot.uerr l ≠ 0) :
    Calls Try.prog 37 #[pv, .int .u64 1, .func (.func 27) #[] #[], .func (.func 38) #[] #[]] w fun e w' => ∃ (x : Note.N) (bv : Value) (ec : Int), e = .returned (.tuple #[.agg #[.int .u8 (x.k : Int), .int .u8 (x.n : Int), .int .u32 (x.e : Int), .int .u32 (x.l : Int), .int .u32 (x.t : Int), .int .u32 (x.g : Int), .int .u32 (x.j : Int), .int .u32 (x.v : Int), .int .u8 (x.r : Int), .int .i64 x.c, .int .u32 (x.f : Int), .int .u32 (x.o : Int), bv], .int .i64 ec]) ∧ Note.Ans Note.N.ok Note.N.enc Note.N.zero l x ec ∧ x.wf ∧ Own w' w.heap.size bv x.b ∧ Below w.heap.size w w' := by
  obtain ⟨ku, hku⟩ : ∃ ku, ku = Knot.uerr l := ⟨_, rfl⟩
  rw [← hku] at hu
  have hq : ((ku : Int) != 0) = true := by rw [bne_iff_ne]; exact hu
  have HU := hid hu
  have HK := hid hku
  have HRD := hid ((hrd.alloc (.cells #[.int .u8 0, .int .u8 0, .int .u32 0, .int .u32 0, .int .u32 0, .int .u32 0, .int .u32 0, .int .u32 0, .int .u8 0, .int .i64 0, .int .u32 0, .int .u32 0, .slice none 0 0] 25)).alloc (.cells #[.int .u8 0, .int .u8 0, .int .u32 0, .int .u32 0, .int .u32 0, .int .u32 0, .int .u32 0, .int .u32 0, .int .u8 0, .int .i64 0, .int .u32 0, .int .u32 0, .slice none 0 0] 25))
  clear hu hku hrd
  go_enter Try.func37, Try.ntmps37
  go_wp2_with fail
  refine (untie_any pv l _ HRD.out (by omega)).mono ?_
  rintro e w1 ⟨uv, rfl, hou, hb1⟩
  rw [← HK.out]
  have hs1 := hb1.size
  simp at hs1
  have hz8 : w1.heap[w.heap.size]? = some (.cells #[.int .u8 0, .int .u8 0, .int .u32 0, .int .u32 0, .int .u32 0, .int .u32 0, .int .u32 0, .int .u32 0, .int .u8 0, .int .i64 0, .int .u32 0, .int .u32 0, .slice none 0 0] 25 (0, 0)) := (hb1.block _ (by simp <;> omega)).trans (heap_alloc2_old w _ _)
  have hz10 : w1.heap[w.heap.size + 1]? = some (.cells #[.int .u8 0, .int .u8 0, .int .u32 0, .int .u32 0, .int .u32 0, .int .u32 0, .int .u32 0, .int .u32 0, .int .u8 0, .int .i64 0, .int .u32 0, .int .u32 0, .slice none 0 0] 25 (0, 0)) := (hb1.block _ (by simp)).trans (heap_alloc2_new w _ _)
  have HZ8 := hid hz8
  have HZ10 := hid hz10
  have HW1 : Below w.heap.size w w1 := (((Below.refl _ _).alloc (Nat.le_refl _) _).alloc (by simp) _).trans (hb1.mono (by simp; omega))
  clear hz8 hz10 hb1 hou
  go_wp2_with (first | (refine load_st rfl 25 (.tmp 10) rfl (w.heap.size + 1) rfl #[.int .u8 0, .int .u8 0, .int .u32 0, .int .u32 0, .int .u32 0, .int .u32 0, .int .u32 0, .int .u32 0, .int .u8 0, .int .i64 0, .int .u32 0, .int .u32 0, .slice none 0 0] _ 13 HZ10.out Try.underlying25 size_note rfl ?_) | (refine store_st rfl 25 (.tmp 8) (.tmp 22) rfl w.heap.size #[.int .u8 0, .int .u8 0, .int .u32 0, .int .u32 0, .int .u32 0, .int .u32 0, .int .u32 0, .int .u32 0, .int .u8 0, .int .i64 0, .int .u32 0, .int .u32 0, .slice none 0 0] rfl rfl #[.int .u8 0, .int .u8 0, .int .u32 0, .int .u32 0, .int .u32 0, .int .u32 0, .int .u32 0, .int .u32 0, .int .u8 0, .int .i64 0, .int .u32 0, .int .u32 0, .slice none 0 0] 13 HZ8.out size_note rfl rfl (by simp [Value.oneCell']) ?_) | fail)
  refine bodyPost_ret (results_cell2 rfl _ _ _ w.heap.size 25 #[.int .u8 0, .int .u8 0, .int .u32 0, .int .u32 0, .int .u32 0, .int .u32 0, .int .u32 0, .int .u32 0, .int .u8 0, .int .i64 0, .int .u32 0, .int .u32 0, .slice none 0 0] (0, 0) _ rfl rfl (setRow_heap w1 w.heap.size _ _ 25 _ HZ8.out) Try.underlying25 size_note) rfl ⟨Note.N.zero, .slice none 0 0, ku, rfl, .inl ⟨by rw [← HK.out]; exact HU.out, rfl, HK.out⟩, (by unfold Note.N.wf Note.N.zero; simp), Own.nil _ _, HW1.trans (setRow_below _ (Nat.le_refl _))⟩

set_option maxRecDepth 100000 in
set_option maxHeartbeats 2000000 in
theorem rgnote_tag (pv : Value) (l : List UInt8) (w : World) (hrd : Rd w pv l) (hl : l.length ≤ 100000) (hu : Knot.uerr l = 0) (n0 : Nat) (s0 : Option (List UInt8)) (hn : Ink.stNum (some (Knot.utext l)) = (n0, s0)) (ht : n0 ≠ 1) :
    Calls Try.prog 37 #[pv, .int .u64 1, .func (.func 27) #[] #[], .func (.func 38) #[] #[]] w fun e w' => ∃ (x : Note.N) (bv : Value) (ec : Int), e = .returned (.tuple #[.agg #[.int .u8 (x.k : Int), .int .u8 (x.n : Int), .int .u32 (x.e : Int), .int .u32 (x.l : Int), .int .u32 (x.t : Int), .int .u32 (x.g : Int), .int .u32 (x.j : Int), .int .u32 (x.v : Int), .int .u8 (x.r : Int), .int .i64 x.c, .int .u32 (x.f : Int), .int .u32 (x.o : Int), bv], .int .i64 ec]) ∧ Note.Ans Note.N.ok Note.N.enc Note.N.zero l x ec ∧ x.wf ∧ Own w' w.heap.size bv x.b ∧ Below w.heap.size w w' := by
  have hq : ((n0 : Int) != 1) = true := by rw [bne_iff_ne]; omega
  have HT := hid ht
  clear ht
  have HRD := hid ((hrd.alloc (.cells #[.int .u8 0, .int .u8 0, .int .u32 0, .int .u32 0, .int .u32 0, .int .u32 0, .int .u32 0, .int .u32 0, .int .u8 0, .int .i64 0, .int .u32 0, .int .u32 0, .slice none 0 0] 25)).alloc (.cells #[.int .u8 0, .int .u8 0, .int .u32 0, .int .u32 0, .int .u32 0, .int .u32 0, .int .u32 0, .int .u32 0, .int .u8 0, .int .i64 0, .int .u32 0, .int .u32 0, .slice none 0 0] 25))
  have hul := utext_length l
  have HU := hid hu
  have HN := hid hn
  clear hu hrd hn
  go_enter Try.func37, Try.ntmps37
  go_wp2_with fail
  refine (untie_any pv l _ HRD.out (by omega)).mono ?_
  rintro e w1 ⟨uv, rfl, hou, hb1⟩
  rw [HU.out]
  have hs1 := hb1.size
  simp at hs1
  have hz8 : w1.heap[w.heap.size]? = some (.cells #[.int .u8 0, .int .u8 0, .int .u32 0, .int .u32 0, .int .u32 0, .int .u32 0, .int .u32 0, .int .u32 0, .int .u8 0, .int .i64 0, .int .u32 0, .int .u32 0, .slice none 0 0] 25 (0, 0)) := (hb1.block _ (by simp <;> omega)).trans (heap_alloc2_old w _ _)
  have hz10 : w1.heap[w.heap.size + 1]? = some (.cells #[.int .u8 0, .int .u8 0, .int .u32 0, .int .u32 0, .int .u32 0, .int .u32 0, .int .u32 0, .int .u32 0, .int .u8 0, .int .i64 0, .int .u32 0, .int .u32 0, .slice none 0 0] 25 (0, 0)) := (hb1.block _ (by simp)).trans (heap_alloc2_new w _ _)
  have HW1 : Below w.heap.size w w1 := (((Below.refl _ _).alloc (Nat.le_refl _) _).alloc (by simp) _).trans (hb1.mono (by simp; omega))
  go_wp2_with fail
  refine (read_any uv (Knot.utext l) w1 hou.rd (by omega)).mono ?_
  rintro e w2 ⟨be, ve, rfl, hey, hb2⟩
  have hs2 := hb2.size
  have hbe := hey.lt
  have hbeb := hey.2.2.2
  have hvo := hey.2.2.1
  have h3 := (Below.refl w2.heap.size w2).alloc (Nat.le_refl _) (.cells #[.pointer (some ⟨be, 0, none⟩), .bool false] 86)
  have HF3 := hid (show FldAt (w2.alloc (.cells #[.pointer (some ⟨be, 0, none⟩), .bool false] 86)) w1.heap.size w2.heap.size be ve (some (Knot.utext l), false) from
    ⟨heap_alloc_new w2 _, EyeAt.below hey h3, by omega, by omega, fun e => by have := (hvo _ e).2.2; omega⟩)
  have hz82 := (hb2.block w.heap.size (by omega)).trans hz8
  have hz102 := (hb2.block (w.heap.size + 1) (by omega)).trans hz10
  have HZ8 := hid ((h3.block w.heap.size (by omega)).trans hz82)
  have HZ10 := hid ((h3.block (w.heap.size + 1) (by omega)).trans hz102)
  have HW3 := hid (HW1.trans ((hb2.mono (by omega)).trans (h3.mono (by omega))))
  have hc3 := HF3.out.cell0
  clear hz8 hz10 hz82 hz102 hb1 hou hb2 hvo hey HW1 h3
  go_wp2_with fail
  refine (eyenum_st w1.heap.size be ve (some (Knot.utext l)) _ HF3.out.2.1).mono ?_
  rintro e w4 ⟨rfl, v4, h4, hk4, hv4⟩
  rw [HN.out] at h4 ⊢
  have HF4 := hid (HF3.out.eye h4 hk4 hv4)
  have hs4 := hk4.size
  simp at hs4
  have HZ84 := hid ((hk4.block w.heap.size (by simp <;> omega) (by omega)).trans HZ8.out)
  have HZ104 := hid ((hk4.block (w.heap.size + 1) (by simp <;> omega) (by omega)).trans HZ10.out)
  have HW4 := hid (HW3.out.trans (hk4.below (B := w.heap.size) (by simp <;> omega) (fun i hi => by omega)))
  clear h4 hk4 hv4 hc3 HF3 HZ8 HZ10 HW3
  go_wp2_with (first | (refine load_st rfl 25 (.tmp 10) rfl (w.heap.size + 1) rfl #[.int .u8 0, .int .u8 0, .int .u32 0, .int .u32 0, .int .u32 0, .int .u32 0, .int .u32 0, .int .u32 0, .int .u8 0, .int .i64 0, .int .u32 0, .int .u32 0, .slice none 0 0] _ 13 HZ104.out Try.underlying25 size_note rfl ?_) | (refine store_st rfl 25 (.tmp 8) (.tmp 35) rfl w.heap.size #[.int .u8 0, .int .u8 0, .int .u32 0, .int .u32 0, .int .u32 0, .int .u32 0, .int .u32 0, .int .u32 0, .int .u8 0, .int .i64 0, .int .u32 0, .int .u32 0, .slice none 0 0] rfl rfl #[.int .u8 0, .int .u8 0, .int .u32 0, .int .u32 0, .int .u32 0, .int .u32 0, .int .u32 0, .int .u32 0, .int .u8 0, .int .i64 0, .int .u32 0, .int .u32 0, .slice none 0 0] 13 HZ84.out size_note rfl rfl (by simp [Value.oneCell']) ?_) | fail)
  refine bodyPost_ret (results_cell2 rfl _ _ _ w.heap.size 25 #[.int .u8 0, .int .u8 0, .int .u32 0, .int .u32 0, .int .u32 0, .int .u32 0, .int .u32 0, .int .u32 0, .int .u8 0, .int .i64 0, .int .u32 0, .int .u32 0, .slice none 0 0] (0, 0) _ rfl rfl (setRow_heap w4 w.heap.size _ _ 25 _ HZ84.out) Try.underlying25 size_note) rfl ⟨Note.N.zero, .slice none 0 0, 4, rfl, .inr (.inr ⟨HU.out, Note.N.no_tag HN.out HT.out, rfl, rfl⟩), (by unfold Note.N.wf Note.N.zero; simp), Own.nil _ _, HW4.out.trans (setRow_below _ (Nat.le_refl _))⟩

set_option maxRecDepth 100000 in
set_option maxHeartbeats 4000000 in
theorem rgnote_body (pv : Value) (l : List UInt8) (w : World) (hrd : Rd w pv l) (hl : l.length ≤ 100000) (hu : Knot.uerr l = 0) (s0 : Option (List UInt8)) (hn : Ink.stNum (some (Knot.utext l)) = (1, s0)) :
    Calls Try.prog 37 #[pv, .int .u64 1, .func (.func 27) #[] #[], .func (.func 38) #[] #[]] w fun e w' => ∃ (x : Note.N) (bv : Value) (ec : Int), e = .returned (.tuple #[.agg #[.int .u8 (x.k : Int), .int .u8 (x.n : Int), .int .u32 (x.e : Int), .int .u32 (x.l : Int), .int .u32 (x.t : Int), .int .u32 (x.g : Int), .int .u32 (x.j : Int), .int .u32 (x.v : Int), .int .u8 (x.r : Int), .int .i64 x.c, .int .u32 (x.f : Int), .int .u32 (x.o : Int), bv], .int .i64 ec]) ∧ Note.Ans Note.N.ok Note.N.enc Note.N.zero l x ec ∧ x.wf ∧ Own w' w.heap.size bv x.b ∧ Below w.heap.size w w' := by
  have HLEN := hid (show ∀ r, s0 = some r → r.length ≤ (Knot.utext l).length from fun r hr => by
    have h1 := Ink.stNum_le (some (Knot.utext l))
    rw [hn, hr] at h1
    simpa using h1)
  have HRD := hid ((hrd.alloc (.cells #[.int .u8 0, .int .u8 0, .int .u32 0, .int .u32 0, .int .u32 0, .int .u32 0, .int .u32 0, .int .u32 0, .int .u8 0, .int .i64 0, .int .u32 0, .int .u32 0, .slice none 0 0] 25)).alloc (.cells #[.int .u8 0, .int .u8 0, .int .u32 0, .int .u32 0, .int .u32 0, .int .u32 0, .int .u32 0, .int .u32 0, .int .u8 0, .int .i64 0, .int .u32 0, .int .u32 0, .slice none 0 0] 25))
  have hul := utext_length l
  have HU := hid hu
  have HN := hid hn
  clear hu hrd hn
  go_enter Try.func37, Try.ntmps37
  go_wp2_with fail
  refine (untie_any pv l _ HRD.out (by omega)).mono ?_
  rintro e w1 ⟨uv, rfl, hou, hb1⟩
  rw [HU.out]
  have hs1 := hb1.size
  simp at hs1
  have hz8 : w1.heap[w.heap.size]? = some (.cells #[.int .u8 0, .int .u8 0, .int .u32 0, .int .u32 0, .int .u32 0, .int .u32 0, .int .u32 0, .int .u32 0, .int .u8 0, .int .i64 0, .int .u32 0, .int .u32 0, .slice none 0 0] 25 (0, 0)) := (hb1.block _ (by simp <;> omega)).trans (heap_alloc2_old w _ _)
  have hz10 : w1.heap[w.heap.size + 1]? = some (.cells #[.int .u8 0, .int .u8 0, .int .u32 0, .int .u32 0, .int .u32 0, .int .u32 0, .int .u32 0, .int .u32 0, .int .u8 0, .int .i64 0, .int .u32 0, .int .u32 0, .slice none 0 0] 25 (0, 0)) := (hb1.block _ (by simp)).trans (heap_alloc2_new w _ _)
  have HW1 : Below w.heap.size w w1 := (((Below.refl _ _).alloc (Nat.le_refl _) _).alloc (by simp) _).trans (hb1.mono (by simp; omega))
  go_wp2_with fail
  refine (read_any uv (Knot.utext l) w1 hou.rd (by omega)).mono ?_
  rintro e w2 ⟨be, ve, rfl, hey, hb2⟩
  have hs2 := hb2.size
  have hbe := hey.lt
  have hbeb := hey.2.2.2
  have hvo := hey.2.2.1
  have h3 := (Below.refl w2.heap.size w2).alloc (Nat.le_refl _) (.cells #[.pointer (some ⟨be, 0, none⟩), .bool false] 86)
  have HF3 := hid (show FldAt (w2.alloc (.cells #[.pointer (some ⟨be, 0, none⟩), .bool false] 86)) w1.heap.size w2.heap.size be ve (some (Knot.utext l), false) from
    ⟨heap_alloc_new w2 _, EyeAt.below hey h3, by omega, by omega, fun e => by have := (hvo _ e).2.2; omega⟩)
  have hz82 := (hb2.block w.heap.size (by omega)).trans hz8
  have hz102 := (hb2.block (w.heap.size + 1) (by omega)).trans hz10
  have HZ8 := hid ((h3.block w.heap.size (by omega)).trans hz82)
  have HZ10 := hid ((h3.block (w.heap.size + 1) (by omega)).trans hz102)
  have HW3 := hid (HW1.trans ((hb2.mono (by omega)).trans (h3.mono (by omega))))
  have hc3 := HF3.out.cell0
  clear hz8 hz10 hz82 hz102 hb1 hou hb2 hvo hey HW1 h3
  go_wp2_with fail
  refine (eyenum_st w1.heap.size be ve (some (Knot.utext l)) _ HF3.out.2.1).mono ?_
  rintro e w4 ⟨rfl, v4, h4, hk4, hv4⟩
  rw [HN.out] at h4 ⊢
  have HF4 := hid (HF3.out.eye h4 hk4 hv4)
  have hs4 := hk4.size
  simp at hs4
  have HZ84 := hid ((hk4.block w.heap.size (by simp <;> omega) (by omega)).trans HZ8.out)
  have HZ104 := hid ((hk4.block (w.heap.size + 1) (by simp <;> omega) (by omega)).trans HZ10.out)
  have HW4 := hid (HW3.out.trans (hk4.below (B := w.heap.size) (by simp <;> omega) (fun i hi => by omega)))
  clear h4 hk4 hv4 hc3 HF3 HZ8 HZ10 HW3
  go_wp2_with fail
  refine (rdnote_any w4 w1.heap.size w2.heap.size be v4 (s0, false) HF4.out (fun r hr => by have h1 := HLEN.out r hr; omega) (by omega)).mono ?_
  rintro e w5 ⟨x, bv, rfl, hxw, hbo, ⟨v5, st1, ⟨s5, o5⟩, hf5, hr5, hl5⟩, hb5⟩
  obtain ⟨ba, bc, eb, _⟩ := hbo.rd
  subst eb
  have HBO := hid hbo
  clear hbo
  have hs5 := hb5.size
  have HX := hid hxw
  have HR5 := hid hr5
  have HL5 := hid hl5
  have hlt5 := hf5.lt
  have HZ85 := hid ((hb5.block w.heap.size (by omega)).trans HZ84.out)
  have HZ105 := hid ((hb5.block (w.heap.size + 1) (by omega)).trans HZ104.out)
  have HA := hid (heap_alloc_new w5 (.cells #[.int .u8 0, .int .u8 0, .int .u32 0, .int .u32 0, .int .u32 0, .int .u32 0, .int .u32 0, .int .u32 0, .int .u8 0, .int .i64 0, .int .u32 0, .int .u32 0, .slice none 0 0] 25))
  have h6 : Below w5.heap.size w5 ((w5.alloc (.cells #[.int .u8 0, .int .u8 0, .int .u32 0, .int .u32 0, .int .u32 0, .int .u32 0, .int .u32 0, .int .u32 0, .int .u8 0, .int .i64 0, .int .u32 0, .int .u32 0, .slice none 0 0] 25)).setRow w5.heap.size #[.int .u8 (x.k : Int), .int .u8 (x.n : Int), .int .u32 (x.e : Int), .int .u32 (x.l : Int), .int .u32 (x.t : Int), .int .u32 (x.g : Int), .int .u32 (x.j : Int), .int .u32 (x.v : Int), .int .u8 (x.r : Int), .int .i64 x.c, .int .u32 (x.f : Int), .int .u32 (x.o : Int), .slice ba x.b.length bc]) := ((Below.refl _ _).alloc (Nat.le_refl _) _).trans (setRow_below _ (Nat.le_refl _))
  have HF6 := hid (hf5.below h6)
  have HC6 := hid (setRow_heap (w5.alloc (.cells #[.int .u8 0, .int .u8 0, .int .u32 0, .int .u32 0, .int .u32 0, .int .u32 0, .int .u32 0, .int .u32 0, .int .u8 0, .int .i64 0, .int .u32 0, .int .u32 0, .slice none 0 0] 25)) w5.heap.size _ #[.int .u8 (x.k : Int), .int .u8 (x.n : Int), .int .u32 (x.e : Int), .int .u32 (x.l : Int), .int .u32 (x.t : Int), .int .u32 (x.g : Int), .int .u32 (x.j : Int), .int .u32 (x.v : Int), .int .u8 (x.r : Int), .int .i64 x.c, .int .u32 (x.f : Int), .int .u32 (x.o : Int), .slice ba x.b.length bc] 25 _ HA.out)
  have HZ86 := hid ((h6.block w.heap.size (by omega)).trans HZ85.out)
  have HZ106 := hid ((h6.block (w.heap.size + 1) (by omega)).trans HZ105.out)
  have HW6 := hid (HW4.out.trans ((hb5.mono (by omega)).trans (h6.mono (by omega))))
  have hc60 := HF6.out.cell0
  have hc61 := HF6.out.cell1
  have HBO6 := hid (HBO.out.below h6)
  clear hf5 hr5 hl5 hxw h6 hb5
  cases o5
  · by_cases hs : s5 = some []
    · subst hs
      cases hrt : x.right
      · have HRT := hid hrt
        clear hrt
        go_wp2_with (first | (refine store_st rfl 25 (.tmp 14) (.tmp 38) rfl w5.heap.size #[.int .u8 (x.k : Int), .int .u8 (x.n : Int), .int .u32 (x.e : Int), .int .u32 (x.l : Int), .int .u32 (x.t : Int), .int .u32 (x.g : Int), .int .u32 (x.j : Int), .int .u32 (x.v : Int), .int .u8 (x.r : Int), .int .i64 x.c, .int .u32 (x.f : Int), .int .u32 (x.o : Int), .slice ba x.b.length bc] rfl rfl #[.int .u8 0, .int .u8 0, .int .u32 0, .int .u32 0, .int .u32 0, .int .u32 0, .int .u32 0, .int .u32 0, .int .u8 0, .int .i64 0, .int .u32 0, .int .u32 0, .slice none 0 0] 13 HA.out size_note rfl rfl (by simp [Value.oneCell']) ?_) | fail)
        refine (eyeend_good _ be v5 _ HF6.out.2.1).mono ?_
        rintro e w' ⟨rfl, rfl⟩
        have hcx0 : ((w5.alloc (.cells #[.int .u8 0, .int .u8 0, .int .u32 0, .int .u32 0, .int .u32 0, .int .u32 0, .int .u32 0, .int .u32 0, .int .u8 0, .int .i64 0, .int .u32 0, .int .u32 0, .slice none 0 0] 25)).setRow w5.heap.size #[.int .u8 (x.k : Int), .int .u8 (x.n : Int), .int .u32 (x.e : Int), .int .u32 (x.l : Int), .int .u32 (x.t : Int), .int .u32 (x.g : Int), .int .u32 (x.j : Int), .int .u32 (x.v : Int), .int .u8 (x.r : Int), .int .i64 x.c, .int .u32 (x.f : Int), .int .u32 (x.o : Int), .slice ba x.b.length bc]).cell? ⟨w5.heap.size, 0, none⟩ = some (.int .u8 (x.k : Int)) := (cell_of_row _ _ _ _ _ _ HC6.out).trans rfl
        have hcx1 : ((w5.alloc (.cells #[.int .u8 0, .int .u8 0, .int .u32 0, .int .u32 0, .int .u32 0, .int .u32 0, .int .u32 0, .int .u32 0, .int .u8 0, .int .i64 0, .int .u32 0, .int .u32 0, .slice none 0 0] 25)).setRow w5.heap.size #[.int .u8 (x.k : Int), .int .u8 (x.n : Int), .int .u32 (x.e : Int), .int .u32 (x.l : Int), .int .u32 (x.t : Int), .int .u32 (x.g : Int), .int .u32 (x.j : Int), .int .u32 (x.v : Int), .int .u8 (x.r : Int), .int .i64 x.c, .int .u32 (x.f : Int), .int .u32 (x.o : Int), .slice ba x.b.length bc]).cell? ⟨w5.heap.size, 1, none⟩ = some (.int .u8 (x.n : Int)) := (cell_of_row _ _ _ _ _ _ HC6.out).trans rfl
        have hcx2 : ((w5.alloc (.cells #[.int .u8 0, .int .u8 0, .int .u32 0, .int .u32 0, .int .u32 0, .int .u32 0, .int .u32 0, .int .u32 0, .int .u8 0, .int .i64 0, .int .u32 0, .int .u32 0, .slice none 0 0] 25)).setRow w5.heap.size #[.int .u8 (x.k : Int), .int .u8 (x.n : Int), .int .u32 (x.e : Int), .int .u32 (x.l : Int), .int .u32 (x.t : Int), .int .u32 (x.g : Int), .int .u32 (x.j : Int), .int .u32 (x.v : Int), .int .u8 (x.r : Int), .int .i64 x.c, .int .u32 (x.f : Int), .int .u32 (x.o : Int), .slice ba x.b.length bc]).cell? ⟨w5.heap.size, 2, none⟩ = some (.int .u32 (x.e : Int)) := (cell_of_row _ _ _ _ _ _ HC6.out).trans rfl
        have hcx3 : ((w5.alloc (.cells #[.int .u8 0, .int .u8 0, .int .u32 0, .int .u32 0, .int .u32 0, .int .u32 0, .int .u32 0, .int .u32 0, .int .u8 0, .int .i64 0, .int .u32 0, .int .u32 0, .slice none 0 0] 25)).setRow w5.heap.size #[.int .u8 (x.k : Int), .int .u8 (x.n : Int), .int .u32 (x.e : Int), .int .u32 (x.l : Int), .int .u32 (x.t : Int), .int .u32 (x.g : Int), .int .u32 (x.j : Int), .int .u32 (x.v : Int), .int .u8 (x.r : Int), .int .i64 x.c, .int .u32 (x.f : Int), .int .u32 (x.o : Int), .slice ba x.b.length bc]).cell? ⟨w5.heap.size, 3, none⟩ = some (.int .u32 (x.l : Int)) := (cell_of_row _ _ _ _ _ _ HC6.out).trans rfl
        have hcx4 : ((w5.alloc (.cells #[.int .u8 0, .int .u8 0, .int .u32 0, .int .u32 0, .int .u32 0, .int .u32 0, .int .u32 0, .int .u32 0, .int .u8 0, .int .i64 0, .int .u32 0, .int .u32 0, .slice none 0 0] 25)).setRow w5.heap.size #[.int .u8 (x.k : Int), .int .u8 (x.n : Int), .int .u32 (x.e : Int), .int .u32 (x.l : Int), .int .u32 (x.t : Int), .int .u32 (x.g : Int), .int .u32 (x.j : Int), .int .u32 (x.v : Int), .int .u8 (x.r : Int), .int .i64 x.c, .int .u32 (x.f : Int), .int .u32 (x.o : Int), .slice ba x.b.length bc]).cell? ⟨w5.heap.size, 4, none⟩ = some (.int .u32 (x.t : Int)) := (cell_of_row _ _ _ _ _ _ HC6.out).trans rfl
        have hcx5 : ((w5.alloc (.cells #[.int .u8 0, .int .u8 0, .int .u32 0, .int .u32 0, .int .u32 0, .int .u32 0, .int .u32 0, .int .u32 0, .int .u8 0, .int .i64 0, .int .u32 0, .int .u32 0, .slice none 0 0] 25)).setRow w5.heap.size #[.int .u8 (x.k : Int), .int .u8 (x.n : Int), .int .u32 (x.e : Int), .int .u32 (x.l : Int), .int .u32 (x.t : Int), .int .u32 (x.g : Int), .int .u32 (x.j : Int), .int .u32 (x.v : Int), .int .u8 (x.r : Int), .int .i64 x.c, .int .u32 (x.f : Int), .int .u32 (x.o : Int), .slice ba x.b.length bc]).cell? ⟨w5.heap.size, 5, none⟩ = some (.int .u32 (x.g : Int)) := (cell_of_row _ _ _ _ _ _ HC6.out).trans rfl
        have hcx6 : ((w5.alloc (.cells #[.int .u8 0, .int .u8 0, .int .u32 0, .int .u32 0, .int .u32 0, .int .u32 0, .int .u32 0, .int .u32 0, .int .u8 0, .int .i64 0, .int .u32 0, .int .u32 0, .slice none 0 0] 25)).setRow w5.heap.size #[.int .u8 (x.k : Int), .int .u8 (x.n : Int), .int .u32 (x.e : Int), .int .u32 (x.l : Int), .int .u32 (x.t : Int), .int .u32 (x.g : Int), .int .u32 (x.j : Int), .int .u32 (x.v : Int), .int .u8 (x.r : Int), .int .i64 x.c, .int .u32 (x.f : Int), .int .u32 (x.o : Int), .slice ba x.b.length bc]).cell? ⟨w5.heap.size, 6, none⟩ = some (.int .u32 (x.j : Int)) := (cell_of_row _ _ _ _ _ _ HC6.out).trans rfl
        have hcx7 : ((w5.alloc (.cells #[.int .u8 0, .int .u8 0, .int .u32 0, .int .u32 0, .int .u32 0, .int .u32 0, .int .u32 0, .int .u32 0, .int .u8 0, .int .i64 0, .int .u32 0, .int .u32 0, .slice none 0 0] 25)).setRow w5.heap.size #[.int .u8 (x.k : Int), .int .u8 (x.n : Int), .int .u32 (x.e : Int), .int .u32 (x.l : Int), .int .u32 (x.t : Int), .int .u32 (x.g : Int), .int .u32 (x.j : Int), .int .u32 (x.v : Int), .int .u8 (x.r : Int), .int .i64 x.c, .int .u32 (x.f : Int), .int .u32 (x.o : Int), .slice ba x.b.length bc]).cell? ⟨w5.heap.size, 7, none⟩ = some (.int .u32 (x.v : Int)) := (cell_of_row _ _ _ _ _ _ HC6.out).trans rfl
        have hcx8 : ((w5.alloc (.cells #[.int .u8 0, .int .u8 0, .int .u32 0, .int .u32 0, .int .u32 0, .int .u32 0, .int .u32 0, .int .u32 0, .int .u8 0, .int .i64 0, .int .u32 0, .int .u32 0, .slice none 0 0] 25)).setRow w5.heap.size #[.int .u8 (x.k : Int), .int .u8 (x.n : Int), .int .u32 (x.e : Int), .int .u32 (x.l : Int), .int .u32 (x.t : Int), .int .u32 (x.g : Int), .int .u32 (x.j : Int), .int .u32 (x.v : Int), .int .u8 (x.r : Int), .int .i64 x.c, .int .u32 (x.f : Int), .int .u32 (x.o : Int), .slice ba x.b.length bc]).cell? ⟨w5.heap.size, 8, none⟩ = some (.int .u8 (x.r : Int)) := (cell_of_row _ _ _ _ _ _ HC6.out).trans rfl
        have hcx9 : ((w5.alloc (.cells #[.int .u8 0, .int .u8 0, .int .u32 0, .int .u32 0, .int .u32 0, .int .u32 0, .int .u32 0, .int .u32 0, .int .u8 0, .int .i64 0, .int .u32 0, .int .u32 0, .slice none 0 0] 25)).setRow w5.heap.size #[.int .u8 (x.k : Int), .int .u8 (x.n : Int), .int .u32 (x.e : Int), .int .u32 (x.l : Int), .int .u32 (x.t : Int), .int .u32 (x.g : Int), .int .u32 (x.j : Int), .int .u32 (x.v : Int), .int .u8 (x.r : Int), .int .i64 x.c, .int .u32 (x.f : Int), .int .u32 (x.o : Int), .slice ba x.b.length bc]).cell? ⟨w5.heap.size, 9, none⟩ = some (.int .i64 x.c) := (cell_of_row _ _ _ _ _ _ HC6.out).trans rfl
        have hcx10 : ((w5.alloc (.cells #[.int .u8 0, .int .u8 0, .int .u32 0, .int .u32 0, .int .u32 0, .int .u32 0, .int .u32 0, .int .u32 0, .int .u8 0, .int .i64 0, .int .u32 0, .int .u32 0, .slice none 0 0] 25)).setRow w5.heap.size #[.int .u8 (x.k : Int), .int .u8 (x.n : Int), .int .u32 (x.e : Int), .int .u32 (x.l : Int), .int .u32 (x.t : Int), .int .u32 (x.g : Int), .int .u32 (x.j : Int), .int .u32 (x.v : Int), .int .u8 (x.r : Int), .int .i64 x.c, .int .u32 (x.f : Int), .int .u32 (x.o : Int), .slice ba x.b.length bc]).cell? ⟨w5.heap.size, 10, none⟩ = some (.int .u32 (x.f : Int)) := (cell_of_row _ _ _ _ _ _ HC6.out).trans rfl
        have hcx11 : ((w5.alloc (.cells #[.int .u8 0, .int .u8 0, .int .u32 0, .int .u32 0, .int .u32 0, .int .u32 0, .int .u32 0, .int .u32 0, .int .u8 0, .int .i64 0, .int .u32 0, .int .u32 0, .slice none 0 0] 25)).setRow w5.heap.size #[.int .u8 (x.k : Int), .int .u8 (x.n : Int), .int .u32 (x.e : Int), .int .u32 (x.l : Int), .int .u32 (x.t : Int), .int .u32 (x.g : Int), .int .u32 (x.j : Int), .int .u32 (x.v : Int), .int .u8 (x.r : Int), .int .i64 x.c, .int .u32 (x.f : Int), .int .u32 (x.o : Int), .slice ba x.b.length bc]).cell? ⟨w5.heap.size, 11, none⟩ = some (.int .u32 (x.o : Int)) := (cell_of_row _ _ _ _ _ _ HC6.out).trans rfl
        have hcx12 : ((w5.alloc (.cells #[.int .u8 0, .int .u8 0, .int .u32 0, .int .u32 0, .int .u32 0, .int .u32 0, .int .u32 0, .int .u32 0, .int .u8 0, .int .i64 0, .int .u32 0, .int .u32 0, .slice none 0 0] 25)).setRow w5.heap.size #[.int .u8 (x.k : Int), .int .u8 (x.n : Int), .int .u32 (x.e : Int), .int .u32 (x.l : Int), .int .u32 (x.t : Int), .int .u32 (x.g : Int), .int .u32 (x.j : Int), .int .u32 (x.v : Int), .int .u8 (x.r : Int), .int .i64 x.c, .int .u32 (x.f : Int), .int .u32 (x.o : Int), .slice ba x.b.length bc]).cell? ⟨w5.heap.size, 12, none⟩ = some (.slice ba x.b.length bc) := (cell_of_row _ _ _ _ _ _ HC6.out).trans rfl
        go_wp2_with fail
        clear hcx0 hcx1 hcx2 hcx3 hcx4 hcx5 hcx6 hcx7 hcx8 hcx9 hcx10 hcx11 hcx12
        refine (rightnote_any x ba bc _ HX.out).mono ?_
        rintro e w7 ⟨rfl, hb7⟩
        rw [HRT.out]
        have hs7 := hb7.size
        simp at hs7
        have HZ87 := hid ((hb7.block w.heap.size (by simp <;> omega)).trans HZ86.out)
        have HZ107 := hid ((hb7.block (w.heap.size + 1) (by simp <;> omega)).trans HZ106.out)
        have HC7 := hid ((hb7.block w5.heap.size (by simp <;> omega)).trans HC6.out)
        have HW7 := hid (HW6.out.trans (hb7.mono (by simp <;> omega)))
        go_wp2_with (first | (refine load_st rfl 25 (.tmp 10) rfl (w.heap.size + 1) rfl #[.int .u8 0, .int .u8 0, .int .u32 0, .int .u32 0, .int .u32 0, .int .u32 0, .int .u32 0, .int .u32 0, .int .u8 0, .int .i64 0, .int .u32 0, .int .u32 0, .slice none 0 0] _ 13 HZ107.out Try.underlying25 size_note rfl ?_) | (refine store_st rfl 25 (.tmp 8) (.tmp 57) rfl w.heap.size #[.int .u8 0, .int .u8 0, .int .u32 0, .int .u32 0, .int .u32 0, .int .u32 0, .int .u32 0, .int .u32 0, .int .u8 0, .int .i64 0, .int .u32 0, .int .u32 0, .slice none 0 0] rfl rfl #[.int .u8 0, .int .u8 0, .int .u32 0, .int .u32 0, .int .u32 0, .int .u32 0, .int .u32 0, .int .u32 0, .int .u8 0, .int .i64 0, .int .u32 0, .int .u32 0, .slice none 0 0] 13 HZ87.out size_note rfl rfl (by simp [Value.oneCell']) ?_) | fail)
        refine bodyPost_ret (results_cell2 rfl _ _ _ w.heap.size 25 #[.int .u8 0, .int .u8 0, .int .u32 0, .int .u32 0, .int .u32 0, .int .u32 0, .int .u32 0, .int .u32 0, .int .u8 0, .int .i64 0, .int .u32 0, .int .u32 0, .slice none 0 0] (0, 0) _ rfl rfl (setRow_heap w7 w.heap.size _ _ 25 _ HZ87.out) Try.underlying25 size_note) rfl ⟨Note.N.zero, .slice none 0 0, 4, rfl, .inr (.inr ⟨HU.out, fun y hy e => (by have h := Note.N.found HX.out HN.out HR5.out HL5.out y hy e; have h2 := hy.2; rw [← h.1, HRT.out] at h2; cases h2), rfl, rfl⟩), (by unfold Note.N.wf Note.N.zero; simp), Own.nil _ _, HW7.out.trans (setRow_below _ (Nat.le_refl _))⟩
      · have HRT := hid hrt
        clear hrt
        go_wp2_with (first | (refine store_st rfl 25 (.tmp 14) (.tmp 38) rfl w5.heap.size #[.int .u8 (x.k : Int), .int .u8 (x.n : Int), .int .u32 (x.e : Int), .int .u32 (x.l : Int), .int .u32 (x.t : Int), .int .u32 (x.g : Int), .int .u32 (x.j : Int), .int .u32 (x.v : Int), .int .u8 (x.r : Int), .int .i64 x.c, .int .u32 (x.f : Int), .int .u32 (x.o : Int), .slice ba x.b.length bc] rfl rfl #[.int .u8 0, .int .u8 0, .int .u32 0, .int .u32 0, .int .u32 0, .int .u32 0, .int .u32 0, .int .u32 0, .int .u8 0, .int .i64 0, .int .u32 0, .int .u32 0, .slice none 0 0] 13 HA.out size_note rfl rfl (by simp [Value.oneCell']) ?_) | fail)
        refine (eyeend_good _ be v5 _ HF6.out.2.1).mono ?_
        rintro e w' ⟨rfl, rfl⟩
        have hcx0 : ((w5.alloc (.cells #[.int .u8 0, .int .u8 0, .int .u32 0, .int .u32 0, .int .u32 0, .int .u32 0, .int .u32 0, .int .u32 0, .int .u8 0, .int .i64 0, .int .u32 0, .int .u32 0, .slice none 0 0] 25)).setRow w5.heap.size #[.int .u8 (x.k : Int), .int .u8 (x.n : Int), .int .u32 (x.e : Int), .int .u32 (x.l : Int), .int .u32 (x.t : Int), .int .u32 (x.g : Int), .int .u32 (x.j : Int), .int .u32 (x.v : Int), .int .u8 (x.r : Int), .int .i64 x.c, .int .u32 (x.f : Int), .int .u32 (x.o : Int), .slice ba x.b.length bc]).cell? ⟨w5.heap.size, 0, none⟩ = some (.int .u8 (x.k : Int)) := (cell_of_row _ _ _ _ _ _ HC6.out).trans rfl
        have hcx1 : ((w5.alloc (.cells #[.int .u8 0, .int .u8 0, .int .u32 0, .int .u32 0, .int .u32 0, .int .u32 0, .int .u32 0, .int .u32 0, .int .u8 0, .int .i64 0, .int .u32 0, .int .u32 0, .slice none 0 0] 25)).setRow w5.heap.size #[.int .u8 (x.k : Int), .int .u8 (x.n : Int), .int .u32 (x.e : Int), .int .u32 (x.l : Int), .int .u32 (x.t : Int), .int .u32 (x.g : Int), .int .u32 (x.j : Int), .int .u32 (x.v : Int), .int .u8 (x.r : Int), .int .i64 x.c, .int .u32 (x.f : Int), .int .u32 (x.o : Int), .slice ba x.b.length bc]).cell? ⟨w5.heap.size, 1, none⟩ = some (.int .u8 (x.n : Int)) := (cell_of_row _ _ _ _ _ _ HC6.out).trans rfl
        have hcx2 : ((w5.alloc (.cells #[.int .u8 0, .int .u8 0, .int .u32 0, .int .u32 0, .int .u32 0, .int .u32 0, .int .u32 0, .int .u32 0, .int .u8 0, .int .i64 0, .int .u32 0, .int .u32 0, .slice none 0 0] 25)).setRow w5.heap.size #[.int .u8 (x.k : Int), .int .u8 (x.n : Int), .int .u32 (x.e : Int), .int .u32 (x.l : Int), .int .u32 (x.t : Int), .int .u32 (x.g : Int), .int .u32 (x.j : Int), .int .u32 (x.v : Int), .int .u8 (x.r : Int), .int .i64 x.c, .int .u32 (x.f : Int), .int .u32 (x.o : Int), .slice ba x.b.length bc]).cell? ⟨w5.heap.size, 2, none⟩ = some (.int .u32 (x.e : Int)) := (cell_of_row _ _ _ _ _ _ HC6.out).trans rfl
        have hcx3 : ((w5.alloc (.cells #[.int .u8 0, .int .u8 0, .int .u32 0, .int .u32 0, .int .u32 0, .int .u32 0, .int .u32 0, .int .u32 0, .int .u8 0, .int .i64 0, .int .u32 0, .int .u32 0, .slice none 0 0] 25)).setRow w5.heap.size #[.int .u8 (x.k : Int), .int .u8 (x.n : Int), .int .u32 (x.e : Int), .int .u32 (x.l : Int), .int .u32 (x.t : Int), .int .u32 (x.g : Int), .int .u32 (x.j : Int), .int .u32 (x.v : Int), .int .u8 (x.r : Int), .int .i64 x.c, .int .u32 (x.f : Int), .int .u32 (x.o : Int), .slice ba x.b.length bc]).cell? ⟨w5.heap.size, 3, none⟩ = some (.int .u32 (x.l : Int)) := (cell_of_row _ _ _ _ _ _ HC6.out).trans rfl
        have hcx4 : ((w5.alloc (.cells #[.int .u8 0, .int .u8 0, .int .u32 0, .int .u32 0, .int .u32 0, .int .u32 0, .int .u32 0, .int .u32 0, .int .u8 0, .int .i64 0, .int .u32 0, .int .u32 0, .slice none 0 0] 25)).setRow w5.heap.size #[.int .u8 (x.k : Int), .int .u8 (x.n : Int), .int .u32 (x.e : Int), .int .u32 (x.l : Int), .int .u32 (x.t : Int), .int .u32 (x.g : Int), .int .u32 (x.j : Int), .int .u32 (x.v : Int), .int .u8 (x.r : Int), .int .i64 x.c, .int .u32 (x.f : Int), .int .u32 (x.o : Int), .slice ba x.b.length bc]).cell? ⟨w5.heap.size, 4, none⟩ = some (.int .u32 (x.t : Int)) := (cell_of_row _ _ _ _ _ _ HC6.out).trans rfl
        have hcx5 : ((w5.alloc (.cells #[.int .u8 0, .int .u8 0, .int .u32 0, .int .u32 0, .int .u32 0, .int .u32 0, .int .u32 0, .int .u32 0, .int .u8 0, .int .i64 0, .int .u32 0, .int .u32 0, .slice none 0 0] 25)).setRow w5.heap.size #[.int .u8 (x.k : Int), .int .u8 (x.n : Int), .int .u32 (x.e : Int), .int .u32 (x.l : Int), .int .u32 (x.t : Int), .int .u32 (x.g : Int), .int .u32 (x.j : Int), .int .u32 (x.v : Int), .int .u8 (x.r : Int), .int .i64 x.c, .int .u32 (x.f : Int), .int .u32 (x.o : Int), .slice ba x.b.length bc]).cell? ⟨w5.heap.size, 5, none⟩ = some (.int .u32 (x.g : Int)) := (cell_of_row _ _ _ _ _ _ HC6.out).trans rfl
        have hcx6 : ((w5.alloc (.cells #[.int .u8 0, .int .u8 0, .int .u32 0, .int .u32 0, .int .u32 0, .int .u32 0, .int .u32 0, .int .u32 0, .int .u8 0, .int .i64 0, .int .u32 0, .int .u32 0, .slice none 0 0] 25)).setRow w5.heap.size #[.int .u8 (x.k : Int), .int .u8 (x.n : Int), .int .u32 (x.e : Int), .int .u32 (x.l : Int), .int .u32 (x.t : Int), .int .u32 (x.g : Int), .int .u32 (x.j : Int), .int .u32 (x.v : Int), .int .u8 (x.r : Int), .int .i64 x.c, .int .u32 (x.f : Int), .int .u32 (x.o : Int), .slice ba x.b.length bc]).cell? ⟨w5.heap.size, 6, none⟩ = some (.int .u32 (x.j : Int)) := (cell_of_row _ _ _ _ _ _ HC6.out).trans rfl
        have hcx7 : ((w5.alloc (.cells #[.int .u8 0, .int .u8 0, .int .u32 0, .int .u32 0, .int .u32 0, .int .u32 0, .int .u32 0, .int .u32 0, .int .u8 0, .int .i64 0, .int .u32 0, .int .u32 0, .slice none 0 0] 25)).setRow w5.heap.size #[.int .u8 (x.k : Int), .int .u8 (x.n : Int), .int .u32 (x.e : Int), .int .u32 (x.l : Int), .int .u32 (x.t : Int), .int .u32 (x.g : Int), .int .u32 (x.j : Int), .int .u32 (x.v : Int), .int .u8 (x.r : Int), .int .i64 x.c, .int .u32 (x.f : Int), .int .u32 (x.o : Int), .slice ba x.b.length bc]).cell? ⟨w5.heap.size, 7, none⟩ = some (.int .u32 (x.v : Int)) := (cell_of_row _ _ _ _ _ _ HC6.out).trans rfl
        have hcx8 : ((w5.alloc (.cells #[.int .u8 0, .int .u8 0, .int .u32 0, .int .u32 0, .int .u32 0, .int .u32 0, .int .u32 0, .int .u32 0, .int .u8 0, .int .i64 0, .int .u32 0, .int .u32 0, .slice none 0 0] 25)).setRow w5.heap.size #[.int .u8 (x.k : Int), .int .u8 (x.n : Int), .int .u32 (x.e : Int), .int .u32 (x.l : Int), .int .u32 (x.t : Int), .int .u32 (x.g : Int), .int .u32 (x.j : Int), .int .u32 (x.v : Int), .int .u8 (x.r : Int), .int .i64 x.c, .int .u32 (x.f : Int), .int .u32 (x.o : Int), .slice ba x.b.length bc]).cell? ⟨w5.heap.size, 8, none⟩ = some (.int .u8 (x.r : Int)) := (cell_of_row _ _ _ _ _ _ HC6.out).trans rfl
        have hcx9 : ((w5.alloc (.cells #[.int .u8 0, .int .u8 0, .int .u32 0, .int .u32 0, .int .u32 0, .int .u32 0, .int .u32 0, .int .u32 0, .int .u8 0, .int .i64 0, .int .u32 0, .int .u32 0, .slice none 0 0] 25)).setRow w5.heap.size #[.int .u8 (x.k : Int), .int .u8 (x.n : Int), .int .u32 (x.e : Int), .int .u32 (x.l : Int), .int .u32 (x.t : Int), .int .u32 (x.g : Int), .int .u32 (x.j : Int), .int .u32 (x.v : Int), .int .u8 (x.r : Int), .int .i64 x.c, .int .u32 (x.f : Int), .int .u32 (x.o : Int), .slice ba x.b.length bc]).cell? ⟨w5.heap.size, 9, none⟩ = some (.int .i64 x.c) := (cell_of_row _ _ _ _ _ _ HC6.out).trans rfl
        have hcx10 : ((w5.alloc (.cells #[.int .u8 0, .int .u8 0, .int .u32 0, .int .u32 0, .int .u32 0, .int .u32 0, .int .u32 0, .int .u32 0, .int .u8 0, .int .i64 0, .int .u32 0, .int .u32 0, .slice none 0 0] 25)).setRow w5.heap.size #[.int .u8 (x.k : Int), .int .u8 (x.n : Int), .int .u32 (x.e : Int), .int .u32 (x.l : Int), .int .u32 (x.t : Int), .int .u32 (x.g : Int), .int .u32 (x.j : Int), .int .u32 (x.v : Int), .int .u8 (x.r : Int), .int .i64 x.c, .int .u32 (x.f : Int), .int .u32 (x.o : Int), .slice ba x.b.length bc]).cell? ⟨w5.heap.size, 10, none⟩ = some (.int .u32 (x.f : Int)) := (cell_of_row _ _ _ _ _ _ HC6.out).trans rfl
        have hcx11 : ((w5.alloc (.cells #[.int .u8 0, .int .u8 0, .int .u32 0, .int .u32 0, .int .u32 0, .int .u32 0, .int .u32 0, .int .u32 0, .int .u8 0, .int .i64 0, .int .u32 0, .int .u32 0, .slice none 0 0] 25)).setRow w5.heap.size #[.int .u8 (x.k : Int), .int .u8 (x.n : Int), .int .u32 (x.e : Int), .int .u32 (x.l : Int), .int .u32 (x.t : Int), .int .u32 (x.g : Int), .int .u32 (x.j : Int), .int .u32 (x.v : Int), .int .u8 (x.r : Int), .int .i64 x.c, .int .u32 (x.f : Int), .int .u32 (x.o : Int), .slice ba x.b.length bc]).cell? ⟨w5.heap.size, 11, none⟩ = some (.int .u32 (x.o : Int)) := (cell_of_row _ _ _ _ _ _ HC6.out).trans rfl
        have hcx12 : ((w5.alloc (.cells #[.int .u8 0, .int .u8 0, .int .u32 0, .int .u32 0, .int .u32 0, .int .u32 0, .int .u32 0, .int .u32 0, .int .u8 0, .int .i64 0, .int .u32 0, .int .u32 0, .slice none 0 0] 25)).setRow w5.heap.size #[.int .u8 (x.k : Int), .int .u8 (x.n : Int), .int .u32 (x.e : Int), .int .u32 (x.l : Int), .int .u32 (x.t : Int), .int .u32 (x.g : Int), .int .u32 (x.j : Int), .int .u32 (x.v : Int), .int .u8 (x.r : Int), .int .i64 x.c, .int .u32 (x.f : Int), .int .u32 (x.o : Int), .slice ba x.b.length bc]).cell? ⟨w5.heap.size, 12, none⟩ = some (.slice ba x.b.length bc) := (cell_of_row _ _ _ _ _ _ HC6.out).trans rfl
        go_wp2_with fail
        clear hcx0 hcx1 hcx2 hcx3 hcx4 hcx5 hcx6 hcx7 hcx8 hcx9 hcx10 hcx11 hcx12
        refine (rightnote_any x ba bc _ HX.out).mono ?_
        rintro e w7 ⟨rfl, hb7⟩
        rw [HRT.out]
        have hs7 := hb7.size
        simp at hs7
        have HZ87 := hid ((hb7.block w.heap.size (by simp <;> omega)).trans HZ86.out)
        have HZ107 := hid ((hb7.block (w.heap.size + 1) (by simp <;> omega)).trans HZ106.out)
        have HC7 := hid ((hb7.block w5.heap.size (by simp <;> omega)).trans HC6.out)
        have HW7 := hid (HW6.out.trans (hb7.mono (by simp <;> omega)))
        have HB8 := hid (HBO6.out.below hb7)
        go_wp2_with (first | (refine load_st rfl 25 (.tmp 14) rfl w5.heap.size rfl #[.int .u8 (x.k : Int), .int .u8 (x.n : Int), .int .u32 (x.e : Int), .int .u32 (x.l : Int), .int .u32 (x.t : Int), .int .u32 (x.g : Int), .int .u32 (x.j : Int), .int .u32 (x.v : Int), .int .u8 (x.r : Int), .int .i64 x.c, .int .u32 (x.f : Int), .int .u32 (x.o : Int), .slice ba x.b.length bc] _ 13 HC7.out Try.underlying25 size_note rfl ?_) | (refine store_st rfl 25 (.tmp 8) (.tmp 58) rfl w.heap.size #[.int .u8 (x.k : Int), .int .u8 (x.n : Int), .int .u32 (x.e : Int), .int .u32 (x.l : Int), .int .u32 (x.t : Int), .int .u32 (x.g : Int), .int .u32 (x.j : Int), .int .u32 (x.v : Int), .int .u8 (x.r : Int), .int .i64 x.c, .int .u32 (x.f : Int), .int .u32 (x.o : Int), .slice ba x.b.length bc] rfl rfl #[.int .u8 0, .int .u8 0, .int .u32 0, .int .u32 0, .int .u32 0, .int .u32 0, .int .u32 0, .int .u32 0, .int .u8 0, .int .i64 0, .int .u32 0, .int .u32 0, .slice none 0 0] 13 HZ87.out size_note rfl rfl (by simp [Value.oneCell']) ?_) | fail)
        have own9 : Own (w7.setRow w.heap.size #[.int .u8 (x.k : Int), .int .u8 (x.n : Int), .int .u32 (x.e : Int), .int .u32 (x.l : Int), .int .u32 (x.t : Int), .int .u32 (x.g : Int), .int .u32 (x.j : Int), .int .u32 (x.v : Int), .int .u8 (x.r : Int), .int .i64 x.c, .int .u32 (x.f : Int), .int .u32 (x.o : Int), .slice ba x.b.length bc]) w.heap.size (.slice ba x.b.length bc) x.b :=
          (HB8.out.keeps (S := fun k => k = w.heap.size) (setRow_keeps w7 w.heap.size #[.int .u8 (x.k : Int), .int .u8 (x.n : Int), .int .u32 (x.e : Int), .int .u32 (x.l : Int), .int .u32 (x.t : Int), .int .u32 (x.g : Int), .int .u32 (x.j : Int), .int .u32 (x.v : Int), .int .u8 (x.r : Int), .int .i64 x.c, .int .u32 (x.f : Int), .int .u32 (x.o : Int), .slice ba x.b.length bc]) (fun k hk e => by have := (HB8.out.lt k hk).1; omega)).base (fun k hk => by have := (HB8.out.lt k hk).1; omega)
        refine bodyPost_ret (results_cell2 rfl _ _ _ w.heap.size 25 #[.int .u8 (x.k : Int), .int .u8 (x.n : Int), .int .u32 (x.e : Int), .int .u32 (x.l : Int), .int .u32 (x.t : Int), .int .u32 (x.g : Int), .int .u32 (x.j : Int), .int .u32 (x.v : Int), .int .u8 (x.r : Int), .int .i64 x.c, .int .u32 (x.f : Int), .int .u32 (x.o : Int), .slice ba x.b.length bc] (0, 0) _ rfl rfl (setRow_heap w7 w.heap.size _ _ 25 _ HZ87.out) Try.underlying25 size_note) rfl ⟨x, .slice ba x.b.length bc, 0, rfl, .inr (.inl ⟨HU.out, ⟨HX.out, HRT.out⟩, Note.N.is HN.out HR5.out HL5.out, rfl⟩), HX.out, own9, HW7.out.trans (setRow_below _ (Nat.le_refl _))⟩
    · have HS5 := hid hs
      clear hs
      go_wp2_with (first | (refine store_st rfl 25 (.tmp 14) (.tmp 38) rfl w5.heap.size #[.int .u8 (x.k : Int), .int .u8 (x.n : Int), .int .u32 (x.e : Int), .int .u32 (x.l : Int), .int .u32 (x.t : Int), .int .u32 (x.g : Int), .int .u32 (x.j : Int), .int .u32 (x.v : Int), .int .u8 (x.r : Int), .int .i64 x.c, .int .u32 (x.f : Int), .int .u32 (x.o : Int), .slice ba x.b.length bc] rfl rfl #[.int .u8 0, .int .u8 0, .int .u32 0, .int .u32 0, .int .u32 0, .int .u32 0, .int .u32 0, .int .u32 0, .int .u8 0, .int .i64 0, .int .u32 0, .int .u32 0, .slice none 0 0] 13 HA.out size_note rfl rfl (by simp [Value.oneCell']) ?_) | fail)
      refine (eyeend_bad _ be v5 s5 _ HF6.out.2.1 HS5.out).mono ?_
      rintro e w' ⟨rfl, rfl⟩
      go_wp2_with (first | (refine load_st rfl 25 (.tmp 10) rfl (w.heap.size + 1) rfl #[.int .u8 0, .int .u8 0, .int .u32 0, .int .u32 0, .int .u32 0, .int .u32 0, .int .u32 0, .int .u32 0, .int .u8 0, .int .i64 0, .int .u32 0, .int .u32 0, .slice none 0 0] _ 13 HZ106.out Try.underlying25 size_note rfl ?_) | (refine store_st rfl 25 (.tmp 8) (.tmp 57) rfl w.heap.size #[.int .u8 0, .int .u8 0, .int .u32 0, .int .u32 0, .int .u32 0, .int .u32 0, .int .u32 0, .int .u32 0, .int .u8 0, .int .i64 0, .int .u32 0, .int .u32 0, .slice none 0 0] rfl rfl #[.int .u8 0, .int .u8 0, .int .u32 0, .int .u32 0, .int .u32 0, .int .u32 0, .int .u32 0, .int .u32 0, .int .u8 0, .int .i64 0, .int .u32 0, .int .u32 0, .slice none 0 0] 13 HZ86.out size_note rfl rfl (by simp [Value.oneCell']) ?_) | fail)
      refine bodyPost_ret (results_cell2 rfl _ _ _ w.heap.size 25 #[.int .u8 0, .int .u8 0, .int .u32 0, .int .u32 0, .int .u32 0, .int .u32 0, .int .u32 0, .int .u32 0, .int .u8 0, .int .i64 0, .int .u32 0, .int .u32 0, .slice none 0 0] (0, 0) _ rfl rfl (setRow_heap ((w5.alloc (.cells #[.int .u8 0, .int .u8 0, .int .u32 0, .int .u32 0, .int .u32 0, .int .u32 0, .int .u32 0, .int .u32 0, .int .u8 0, .int .i64 0, .int .u32 0, .int .u32 0, .slice none 0 0] 25)).setRow w5.heap.size #[.int .u8 (x.k : Int), .int .u8 (x.n : Int), .int .u32 (x.e : Int), .int .u32 (x.l : Int), .int .u32 (x.t : Int), .int .u32 (x.g : Int), .int .u32 (x.j : Int), .int .u32 (x.v : Int), .int .u8 (x.r : Int), .int .i64 x.c, .int .u32 (x.f : Int), .int .u32 (x.o : Int), .slice ba x.b.length bc]) w.heap.size _ _ 25 _ HZ86.out) Try.underlying25 size_note) rfl ⟨Note.N.zero, .slice none 0 0, 4, rfl, .inr (.inr ⟨HU.out, fun y hy e => (by have h := Note.N.found HX.out HN.out HR5.out HL5.out y hy e; exact HS5.out (congrArg Prod.fst h.2)), rfl, rfl⟩), (by unfold Note.N.wf Note.N.zero; simp), Own.nil _ _, HW6.out.trans (setRow_below _ (Nat.le_refl _))⟩
  · skip
    go_wp2_with (first | (refine store_st rfl 25 (.tmp 14) (.tmp 38) rfl w5.heap.size #[.int .u8 (x.k : Int), .int .u8 (x.n : Int), .int .u32 (x.e : Int), .int .u32 (x.l : Int), .int .u32 (x.t : Int), .int .u32 (x.g : Int), .int .u32 (x.j : Int), .int .u32 (x.v : Int), .int .u8 (x.r : Int), .int .i64 x.c, .int .u32 (x.f : Int), .int .u32 (x.o : Int), .slice ba x.b.length bc] rfl rfl #[.int .u8 0, .int .u8 0, .int .u32 0, .int .u32 0, .int .u32 0, .int .u32 0, .int .u32 0, .int .u32 0, .int .u8 0, .int .i64 0, .int .u32 0, .int .u32 0, .slice none 0 0] 13 HA.out size_note rfl rfl (by simp [Value.oneCell']) ?_) | (refine load_st rfl 25 (.tmp 10) rfl (w.heap.size + 1) rfl #[.int .u8 0, .int .u8 0, .int .u32 0, .int .u32 0, .int .u32 0, .int .u32 0, .int .u32 0, .int .u32 0, .int .u8 0, .int .i64 0, .int .u32 0, .int .u32 0, .slice none 0 0] _ 13 HZ106.out Try.underlying25 size_note rfl ?_) | (refine store_st rfl 25 (.tmp 8) (.tmp 57) rfl w.heap.size #[.int .u8 0, .int .u8 0, .int .u32 0, .int .u32 0, .int .u32 0, .int .u32 0, .int .u32 0, .int .u32 0, .int .u8 0, .int .i64 0, .int .u32 0, .int .u32 0, .slice none 0 0] rfl rfl #[.int .u8 0, .int .u8 0, .int .u32 0, .int .u32 0, .int .u32 0, .int .u32 0, .int .u32 0, .int .u32 0, .int .u8 0, .int .i64 0, .int .u32 0, .int .u32 0, .slice none 0 0] 13 HZ86.out size_note rfl rfl (by simp [Value.oneCell']) ?_) | fail)
    refine bodyPost_ret (results_cell2 rfl _ _ _ w.heap.size 25 #[.int .u8 0, .int .u8 0, .int .u32 0, .int .u32 0, .int .u32 0, .int .u32 0, .int .u32 0, .int .u32 0, .int .u8 0, .int .i64 0, .int .u32 0, .int .u32 0, .slice none 0 0] (0, 0) _ rfl rfl (setRow_heap ((w5.alloc (.cells #[.int .u8 0, .int .u8 0, .int .u32 0, .int .u32 0, .int .u32 0, .int .u32 0, .int .u32 0, .int .u32 0, .int .u8 0, .int .i64 0, .int .u32 0, .int .u32 0, .slice none 0 0] 25)).setRow w5.heap.size #[.int .u8 (x.k : Int), .int .u8 (x.n : Int), .int .u32 (x.e : Int), .int .u32 (x.l : Int), .int .u32 (x.t : Int), .int .u32 (x.g : Int), .int .u32 (x.j : Int), .int .u32 (x.v : Int), .int .u8 (x.r : Int), .int .i64 x.c, .int .u32 (x.f : Int), .int .u32 (x.o : Int), .slice ba x.b.length bc]) w.heap.size _ _ 25 _ HZ86.out) Try.underlying25 size_note) rfl ⟨Note.N.zero, .slice none 0 0, 4, rfl, .inr (.inr ⟨HU.out, fun y hy e => (by have h := Note.N.found HX.out HN.out HR5.out HL5.out y hy e; cases h.2), rfl, rfl⟩), (by unfold Note.N.wf Note.N.zero; simp), Own.nil _ _, HW6.out.trans (setRow_below _ (Nat.le_refl _))⟩

set_option maxRecDepth 100000 in
set_option maxHeartbeats 2000000 in
theorem rgnote_any (pv : Value) (l : List UInt8) (w : World) (hrd : Rd w pv l) (hl : l.length ≤ 100000) :
    Calls Try.prog 37 #[pv, .int .u64 1, .func (.func 27) #[] #[], .func (.func 38) #[] #[]] w fun e w' => ∃ (x : Note.N) (bv : Value) (ec : Int), e = .returned (.tuple #[.agg #[.int .u8 (x.k : Int), .int .u8 (x.n : Int), .int .u32 (x.e : Int), .int .u32 (x.l : Int), .int .u32 (x.t : Int), .int .u32 (x.g : Int), .int .u32 (x.j : Int), .int .u32 (x.v : Int), .int .u8 (x.r : Int), .int .i64 x.c, .int .u32 (x.f : Int), .int .u32 (x.o : Int), bv], .int .i64 ec]) ∧ Note.Ans Note.N.ok Note.N.enc Note.N.zero l x ec ∧ x.wf ∧ Own w' w.heap.size bv x.b ∧ Below w.heap.size w w' := by
  by_cases hu : Knot.uerr l = 0
  · obtain ⟨n0, s0, hn⟩ : ∃ n s, Ink.stNum (some (Knot.utext l)) = (n, s) := ⟨_, _, rfl⟩
    by_cases ht : n0 = 1
    · subst ht
      exact rgnote_body pv l w hrd hl hu s0 hn
    · exact rgnote_tag pv l w hrd hl hu n0 s0 hn ht
  · exact rgnote_err pv l w hrd hl hu

set_option maxRecDepth 100000 in
set_option maxHeartbeats 2000000 in
theorem readnote_any (pv : Value) (l : List UInt8) (w : World) (hrd : Rd w pv l) (hl : l.length ≤ 100000) :
    Calls Try.prog 14 #[pv] w fun e w' => ∃ (x : Note.N) (bv : Value) (ec : Int), e = .returned (.tuple #[.agg #[.int .u8 (x.k : Int), .int .u8 (x.n : Int), .int .u32 (x.e : Int), .int .u32 (x.l : Int), .int .u32 (x.t : Int), .int .u32 (x.g : Int), .int .u32 (x.j : Int), .int .u32 (x.v : Int), .int .u8 (x.r : Int), .int .i64 x.c, .int .u32 (x.f : Int), .int .u32 (x.o : Int), bv], .int .i64 ec]) ∧ Note.Ans Note.N.ok Note.N.enc Note.N.zero l x ec ∧ x.wf ∧ Own w' w.heap.size bv x.b ∧ Below w.heap.size w w' := by
  have H := hid (rgnote_any pv l (w.alloc (.cells #[.int .u8 0, .int .u8 0, .int .u32 0, .int .u32 0, .int .u32 0, .int .u32 0, .int .u32 0, .int .u32 0, .int .u8 0, .int .i64 0, .int .u32 0, .int .u32 0, .slice none 0 0] 25)) (hrd.alloc _) hl)
  clear hrd
  go_enter Try.func14, Try.ntmps14
  go_wp2_with fail
  refine H.out.mono ?_
  rintro e w1 ⟨x, bv, ec, rfl, hans, hxw, hbo, hb1⟩
  have HANS := hid hans
  have HX := hid hxw
  have hs1 := hb1.size
  simp at hs1
  have HZ1 := hid ((hb1.block w.heap.size (by simp)).trans (heap_alloc_new w (.cells #[.int .u8 0, .int .u8 0, .int .u32 0, .int .u32 0, .int .u32 0, .int .u32 0, .int .u32 0, .int .u32 0, .int .u8 0, .int .i64 0, .int .u32 0, .int .u32 0, .slice none 0 0] 25)))
  have HW1 := hid (((Below.refl w.heap.size w).alloc (Nat.le_refl _) (.cells #[.int .u8 0, .int .u8 0, .int .u32 0, .int .u32 0, .int .u32 0, .int .u32 0, .int .u32 0, .int .u32 0, .int .u8 0, .int .i64 0, .int .u32 0, .int .u32 0, .slice none 0 0] 25)).trans (hb1.mono (by simp)))
  obtain ⟨ba, bc, eb, _⟩ := hbo.rd
  subst eb
  have HBO := hid hbo
  clear hbo
  clear hans hxw hb1
  go_wp2_with (first | (refine store_st rfl 25 (.tmp 2) (.tmp 6) rfl w.heap.size #[.int .u8 (x.k : Int), .int .u8 (x.n : Int), .int .u32 (x.e : Int), .int .u32 (x.l : Int), .int .u32 (x.t : Int), .int .u32 (x.g : Int), .int .u32 (x.j : Int), .int .u32 (x.v : Int), .int .u8 (x.r : Int), .int .i64 x.c, .int .u32 (x.f : Int), .int .u32 (x.o : Int), .slice ba x.b.length bc] rfl rfl #[.int .u8 0, .int .u8 0, .int .u32 0, .int .u32 0, .int .u32 0, .int .u32 0, .int .u32 0, .int .u32 0, .int .u8 0, .int .i64 0, .int .u32 0, .int .u32 0, .slice none 0 0] 13 HZ1.out size_note rfl rfl (by simp [Value.oneCell']) ?_) | fail)
  have own9 : Own (w1.setRow w.heap.size #[.int .u8 (x.k : Int), .int .u8 (x.n : Int), .int .u32 (x.e : Int), .int .u32 (x.l : Int), .int .u32 (x.t : Int), .int .u32 (x.g : Int), .int .u32 (x.j : Int), .int .u32 (x.v : Int), .int .u8 (x.r : Int), .int .i64 x.c, .int .u32 (x.f : Int), .int .u32 (x.o : Int), .slice ba x.b.length bc]) w.heap.size (.slice ba x.b.length bc) x.b :=
    (HBO.out.keeps (S := fun k => k = w.heap.size) (setRow_keeps w1 w.heap.size #[.int .u8 (x.k : Int), .int .u8 (x.n : Int), .int .u32 (x.e : Int), .int .u32 (x.l : Int), .int .u32 (x.t : Int), .int .u32 (x.g : Int), .int .u32 (x.j : Int), .int .u32 (x.v : Int), .int .u8 (x.r : Int), .int .i64 x.c, .int .u32 (x.f : Int), .int .u32 (x.o : Int), .slice ba x.b.length bc]) (fun k hk e => by have := (HBO.out.lt k hk).1; simp at this; omega)).base (fun k hk => by have := (HBO.out.lt k hk).1; simp at this; omega)
  exact bodyPost_ret (results_cell2 rfl _ _ _ w.heap.size 25 #[.int .u8 (x.k : Int), .int .u8 (x.n : Int), .int .u32 (x.e : Int), .int .u32 (x.l : Int), .int .u32 (x.t : Int), .int .u32 (x.g : Int), .int .u32 (x.j : Int), .int .u32 (x.v : Int), .int .u8 (x.r : Int), .int .i64 x.c, .int .u32 (x.f : Int), .int .u32 (x.o : Int), .slice ba x.b.length bc] (0, 0) _ rfl rfl (setRow_heap w1 w.heap.size _ _ 25 _ HZ1.out) Try.underlying25 size_note) rfl ⟨x, .slice ba x.b.length bc, ec, rfl, HANS.out, HX.out, own9, HW1.out.trans (setRow_below _ (Nat.le_refl _))⟩


end Go.Proofs.Ytafpgglebjllbaa
