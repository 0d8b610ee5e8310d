/-
  The document's readers: contracts.
-/
import Derived.Test.YtafpgglebjllbaaNoteRo
import Derived.Test.YtafpgglebjllbaaNoteNk
import Derived.Test.YtafpgglebjllbaaNotePk
import Derived.Test.YtafpgglebjllbaaNoteZ
import Derived.Test.YtafpgglebjllbaaNoteO
import Derived.Deep.RegionHeld3
namespace Go.Proofs.Ytafpgglebjllbaa
open Go.RowKit

theorem wrap_u8 (n : Nat) : IntKind.u8.wrap (n : Int) = ((n % 256 : Nat) : Int) := by
  rfl
theorem wrap_u32 (n : Nat) : IntKind.u32.wrap (n : Int) = ((n % 4294967296 : Nat) : Int) := by
  rfl
theorem wrap_s64 (n : Nat) (h : n < 18446744073709551616) : IntKind.i64.wrap (n : Int) = Note.s64 n := by
  show (if (true && decide ((n : Int) % 18446744073709551616 ≥ 9223372036854775808)) = true then (n : Int) % 18446744073709551616 - 18446744073709551616 else (n : Int) % 18446744073709551616) = _
  unfold Note.s64
  simp only [Bool.true_and, decide_eq_true_eq]
  split <;> split <;> omega

theorem below_drew {B : Nat} {w w' : World} (h : Below B w w') : Below B w w'.drew := ⟨h.os, h.tape, h.output, h.size, h.block⟩

theorem Note.N.row_is (l : List UInt8) (y : Note.N) (hy : y.ok) (he : Knot.utext l = y.enc) : Note.N.ofRow (Note.iterN 13 (some (Knot.utext l))).1 (Note.rowEnd true (Note.iterN 13 (some (Knot.utext l))).2).1 = y := by
  rw [he, (y.row_back hy).1, (y.row_back hy).2]
  exact Note.N.ofRow_ns y hy

theorem Note.Q.row_is (l : List UInt8) (y : Note.Q) (hy : y.ok) (he : Knot.utext l = y.enc) : Note.Q.ofRow (Note.iterN 8 (some (Knot.utext l))).1 = y := by
  rw [he, (y.row_back hy).1]
  exact Note.Q.ofRow_ns y hy

theorem Note.R.row_is (l : List UInt8) (y : Note.R) (hy : y.ok) (he : Knot.utext l = y.enc) : Note.R.ofRow (Note.iterN 7 (some (Knot.utext l))).1 = y := by
  rw [he, (y.row_back hy).1]
  exact Note.R.ofRow_ns y hy

theorem Note.P.row_is (l : List UInt8) (y : Note.P) (hy : y.ok) (he : Knot.utext l = y.enc) : Note.P.ofRow (Note.iterN 7 (some (Knot.utext l))).1 (Note.rowEnd true (Note.iterN 7 (some (Knot.utext l))).2).1 = y := by
  rw [he, (y.row_back hy).1, (y.row_back hy).2]
  exact Note.P.ofRow_ns y hy

set_option maxRecDepth 100000 in
set_option maxHeartbeats 4000000 in
theorem refnote_read (pv : Value) (l : List UInt8) (w : World) (hrd : Rd w pv l) (hl : l.length ≤ 100000) :
    Calls Try.prog 19 #[pv] w fun e w' => ∃ (x : Note.N) (bv : Value) (ec : Int), e = .returned (.tuple #[.agg #[.int .u8 (x.k : Int), .int .u8 (x.n : Int), .int .u32 (x.e : Int), .int .u32 (x.l : Int), .int .u32 (x.t : Int), .int .u32 (x.g : Int), .int .u32 (x.j : Int), .int .u32 (x.v : Int), .int .u8 (x.r : Int), .int .i64 x.c, .int .u32 (x.f : Int), .int .u32 (x.o : Int), bv], .int .i64 ec]) ∧ Note.Ans Note.N.ok Note.N.enc Note.N.zero l x ec ∧ x.wf ∧ Own w' w.heap.size bv x.b ∧ Below w.heap.size w w' := by
  have HRD := hid (hrd.alloc (.cells #[.int .u8 0, .int .u8 0, .int .u32 0, .int .u32 0, .int .u32 0, .int .u32 0, .int .u32 0, .int .u32 0, .int .u8 0, .int .i64 0, .int .u32 0, .int .u32 0, .slice none 0 0] 25))
  have HRDW := hid hrd
  have HZ0 := hid (heap_alloc_new w (.cells #[.int .u8 0, .int .u8 0, .int .u32 0, .int .u32 0, .int .u32 0, .int .u32 0, .int .u32 0, .int .u32 0, .int .u8 0, .int .i64 0, .int .u32 0, .int .u32 0, .slice none 0 0] 25))
  have HB0 := hid ((Below.refl w.heap.size w).alloc (Nat.le_refl _) (.cells #[.int .u8 0, .int .u8 0, .int .u32 0, .int .u32 0, .int .u32 0, .int .u32 0, .int .u32 0, .int .u32 0, .int .u8 0, .int .i64 0, .int .u32 0, .int .u32 0, .slice none 0 0] 25))
  clear hrd
  go_enter Try.func19, Try.ntmps19
  go_wp2_with fail
  refine (row_any pv l 13 true _ HRD.out hl (by omega)).mono ?_
  rintro e w1 ⟨lv, bv, ec, rfl, hb1, hcase⟩
  have HZ_w1 := hid ((hb1.block w.heap.size (by simp)).trans HZ0.out)
  have HB_w1 := hid (HB0.out.trans (hb1.mono (by simp)))
  have hs1 := hb1.size
  simp at hs1
  rcases hcase with ⟨hu, he⟩ | ⟨hu, hse, he⟩ | ⟨hu, hse, how, hob, he⟩
  · have hq : ((ec : Int) != 0) = true := by rw [bne_iff_ne, he]; exact hu
    have HE := hid he
    have HU := hid hu
    clear hu he hb1
    go_wp2_with (first | (refine store_st rfl 25 (.tmp 2) (.tmp 18) rfl w.heap.size #[.int .u8 0, .int .u8 0, .int .u32 0, .int .u32 0, .int .u32 0, .int .u32 0, .int .u32 0, .int .u32 0, .int .u8 0, .int .i64 0, .int .u32 0, .int .u32 0, .slice none 0 0] rfl rfl #[.int .u8 0, .int .u8 0, .int .u32 0, .int .u32 0, .int .u32 0, .int .u32 0, .int .u32 0, .int .u32 0, .int .u8 0, .int .i64 0, .int .u32 0, .int .u32 0, .slice none 0 0] 13 HZ_w1.out size_note rfl rfl (by simp [Value.oneCell']) ?_) | fail)
    refine bodyPost_ret (results_cell2 rfl _ _ _ w.heap.size 25 #[.int .u8 0, .int .u8 0, .int .u32 0, .int .u32 0, .int .u32 0, .int .u32 0, .int .u32 0, .int .u32 0, .int .u8 0, .int .i64 0, .int .u32 0, .int .u32 0, .slice none 0 0] (0, 0) _ rfl rfl (setRow_heap w1 w.heap.size _ _ 25 _ HZ_w1.out) Try.underlying25 size_note) rfl ⟨Note.N.zero, .slice none 0 0, ec, rfl, .inl ⟨HU.out, rfl, HE.out⟩, (by unfold Note.N.wf Note.N.zero; simp), Own.nil _ _, HB_w1.out.trans (setRow_below _ (Nat.le_refl _))⟩
  · subst he
    have HE := hid hse
    have HU := hid hu
    clear hu hse hb1
    go_wp2_with (first | (refine store_st rfl 25 (.tmp 2) (.tmp 18) rfl w.heap.size #[.int .u8 0, .int .u8 0, .int .u32 0, .int .u32 0, .int .u32 0, .int .u32 0, .int .u32 0, .int .u32 0, .int .u8 0, .int .i64 0, .int .u32 0, .int .u32 0, .slice none 0 0] rfl rfl #[.int .u8 0, .int .u8 0, .int .u32 0, .int .u32 0, .int .u32 0, .int .u32 0, .int .u32 0, .int .u32 0, .int .u8 0, .int .i64 0, .int .u32 0, .int .u32 0, .slice none 0 0] 13 HZ_w1.out size_note rfl rfl (by simp [Value.oneCell']) ?_) | fail)
    refine bodyPost_ret (results_cell2 rfl _ _ _ w.heap.size 25 #[.int .u8 0, .int .u8 0, .int .u32 0, .int .u32 0, .int .u32 0, .int .u32 0, .int .u32 0, .int .u32 0, .int .u8 0, .int .i64 0, .int .u32 0, .int .u32 0, .slice none 0 0] (0, 0) _ rfl rfl (setRow_heap w1 w.heap.size _ _ 25 _ HZ_w1.out) Try.underlying25 size_note) rfl ⟨Note.N.zero, .slice none 0 0, 4, rfl, .inr (.inr ⟨HU.out, (fun y hy he => HE.out (by have h1 := y.row_back hy; rw [← he] at h1; rw [h1.1]; exact congrArg Prod.snd h1.2)), rfl, rfl⟩), (by unfold Note.N.wf Note.N.zero; simp), Own.nil _ _, HB_w1.out.trans (setRow_below _ (Nat.le_refl _))⟩
  · subst he
    obtain ⟨ns, hns⟩ : ∃ ns, ns = (Note.iterN 13 (some (Knot.utext l))).1 := ⟨_, rfl⟩
    have hnl : ns.length = 13 := by rw [hns]; exact Note.iterN_length _ _
    have hnlt : ∀ q ∈ ns, q < 18446744073709551616 := by rw [hns]; exact Note.iterN_lt _ _
    have hlt : ∀ i, ns.getD i 0 < 18446744073709551616 := fun i => by
      by_cases hi : i < ns.length
      · rw [List.getD_eq_getElem?_getD, List.getElem?_eq_getElem hi]; exact hnlt _ (List.getElem_mem hi)
      · rw [List.getD_eq_getElem?_getD, List.getElem?_eq_none (by omega)]; simp
    obtain ⟨b, hbb⟩ : ∃ b, b = (Note.rowEnd true (Note.iterN 13 (some (Knot.utext l))).2).1 := ⟨_, rfl⟩
    rw [← hns] at how
    rw [← hbb] at hob
    obtain ⟨g, gc, rfl, hg1, hg2, hg3, hg4, hcs⟩ := how.cells (by omega)
    rw [hnl] at hcs hg3 ⊢
    obtain ⟨x, hx⟩ : ∃ x, x = Note.N.ofRow ns b := ⟨_, rfl⟩
    have HXW := hid (show x.wf by rw [hx]; exact Note.N.ofRow_wf ns b hnlt)
    obtain ⟨ba, bc, ebv, _⟩ := hob.rd
    obtain ⟨bl, hbl⟩ : ∃ bl, bl = b.length := ⟨_, rfl⟩
    rw [← hbl] at ebv
    subst ebv
    have hxb : x.b = b := by rw [hx]; rfl
    have HL := hid (show bl = x.b.length by rw [hxb, hbl])
    have HBO := hid (show Own w1 (w.heap.size + 1) (.slice ba bl bc) x.b by rw [hxb]; exact hob.base (fun k hk => by have := (hob.lt k hk).1; simp at this; omega))
    obtain ⟨n1, hn1⟩ : ∃ n1, n1 = ns.getD 1 0 := ⟨_, rfl⟩
    obtain ⟨n2, hn2⟩ : ∃ n2, n2 = ns.getD 2 0 := ⟨_, rfl⟩
    obtain ⟨n3, hn3⟩ : ∃ n3, n3 = ns.getD 3 0 := ⟨_, rfl⟩
    obtain ⟨n4, hn4⟩ : ∃ n4, n4 = ns.getD 4 0 := ⟨_, rfl⟩
    obtain ⟨n5, hn5⟩ : ∃ n5, n5 = ns.getD 5 0 := ⟨_, rfl⟩
    obtain ⟨n6, hn6⟩ : ∃ n6, n6 = ns.getD 6 0 := ⟨_, rfl⟩
    obtain ⟨n7, hn7⟩ : ∃ n7, n7 = ns.getD 7 0 := ⟨_, rfl⟩
    obtain ⟨n8, hn8⟩ : ∃ n8, n8 = ns.getD 8 0 := ⟨_, rfl⟩
    obtain ⟨n9, hn9⟩ : ∃ n9, n9 = ns.getD 9 0 := ⟨_, rfl⟩
    obtain ⟨n10, hn10⟩ : ∃ n10, n10 = ns.getD 10 0 := ⟨_, rfl⟩
    obtain ⟨n11, hn11⟩ : ∃ n11, n11 = ns.getD 11 0 := ⟨_, rfl⟩
    obtain ⟨n12, hn12⟩ : ∃ n12, n12 = ns.getD 12 0 := ⟨_, rfl⟩
    have g1 : w1.cell? ⟨g, 1, none⟩ = some (.int .u64 (n1 : Int)) := by rw [hcs 1 (by omega), ← hn1]
    have g2 : w1.cell? ⟨g, 2, none⟩ = some (.int .u64 (n2 : Int)) := by rw [hcs 2 (by omega), ← hn2]
    have g3 : w1.cell? ⟨g, 3, none⟩ = some (.int .u64 (n3 : Int)) := by rw [hcs 3 (by omega), ← hn3]
    have g4 : w1.cell? ⟨g, 4, none⟩ = some (.int .u64 (n4 : Int)) := by rw [hcs 4 (by omega), ← hn4]
    have g5 : w1.cell? ⟨g, 5, none⟩ = some (.int .u64 (n5 : Int)) := by rw [hcs 5 (by omega), ← hn5]
    have g6 : w1.cell? ⟨g, 6, none⟩ = some (.int .u64 (n6 : Int)) := by rw [hcs 6 (by omega), ← hn6]
    have g7 : w1.cell? ⟨g, 7, none⟩ = some (.int .u64 (n7 : Int)) := by rw [hcs 7 (by omega), ← hn7]
    have g8 : w1.cell? ⟨g, 8, none⟩ = some (.int .u64 (n8 : Int)) := by rw [hcs 8 (by omega), ← hn8]
    have g9 : w1.cell? ⟨g, 9, none⟩ = some (.int .u64 (n9 : Int)) := by rw [hcs 9 (by omega), ← hn9]
    have g10 : w1.cell? ⟨g, 10, none⟩ = some (.int .u64 (n10 : Int)) := by rw [hcs 10 (by omega), ← hn10]
    have g11 : w1.cell? ⟨g, 11, none⟩ = some (.int .u64 (n11 : Int)) := by rw [hcs 11 (by omega), ← hn11]
    have g12 : w1.cell? ⟨g, 12, none⟩ = some (.int .u64 (n12 : Int)) := by rw [hcs 12 (by omega), ← hn12]
    have v1 : IntKind.u8.wrap (n1 : Int) = (x.k : Int) := by rw [hx, hn1]; exact wrap_u8 _
    have v2 : IntKind.u8.wrap (n2 : Int) = (x.n : Int) := by rw [hx, hn2]; exact wrap_u8 _
    have v3 : IntKind.u32.wrap (n3 : Int) = (x.e : Int) := by rw [hx, hn3]; exact wrap_u32 _
    have v4 : IntKind.u32.wrap (n4 : Int) = (x.l : Int) := by rw [hx, hn4]; exact wrap_u32 _
    have v5 : IntKind.u32.wrap (n5 : Int) = (x.t : Int) := by rw [hx, hn5]; exact wrap_u32 _
    have v6 : IntKind.u32.wrap (n6 : Int) = (x.g : Int) := by rw [hx, hn6]; exact wrap_u32 _
    have v7 : IntKind.u32.wrap (n7 : Int) = (x.j : Int) := by rw [hx, hn7]; exact wrap_u32 _
    have v8 : IntKind.u32.wrap (n8 : Int) = (x.v : Int) := by rw [hx, hn8]; exact wrap_u32 _
    have v9 : IntKind.u8.wrap (n9 : Int) = (x.r : Int) := by rw [hx, hn9]; exact wrap_u8 _
    have v10 : IntKind.i64.wrap (n10 : Int) = x.c := by rw [hx, hn10]; exact wrap_s64 _ (hlt 10)
    have v11 : IntKind.u32.wrap (n11 : Int) = (x.f : Int) := by rw [hx, hn11]; exact wrap_u32 _
    have v12 : IntKind.u32.wrap (n12 : Int) = (x.o : Int) := by rw [hx, hn12]; exact wrap_u32 _
    have HNS := hid hns
    have HBB := hid hbb
    have HX := hid hx
    have HU := hid hu
    have HSE := hid hse
    have HG := hid (And.intro hg1 hg2)
    clear hns hbb hx hu hse hlt hnlt how hob hb1 hcs hn1 hn2 hn3 hn4 hn5 hn6 hn7 hn8 hn9 hn10 hn11 hn12 hbl hxb
    go_wp2_with fail
    go_region_held3 (fun w' => w'.cell? ⟨g, 1, none⟩ = some (.int .u64 (n1 : Int)) ∧ w'.cell? ⟨g, 2, none⟩ = some (.int .u64 (n2 : Int)) ∧ w'.cell? ⟨g, 3, none⟩ = some (.int .u64 (n3 : Int)) ∧ w'.cell? ⟨g, 4, none⟩ = some (.int .u64 (n4 : Int)) ∧ w'.cell? ⟨g, 5, none⟩ = some (.int .u64 (n5 : Int)) ∧ w'.cell? ⟨g, 6, none⟩ = some (.int .u64 (n6 : Int)) ∧ w'.cell? ⟨g, 7, none⟩ = some (.int .u64 (n7 : Int)) ∧ w'.cell? ⟨g, 8, none⟩ = some (.int .u64 (n8 : Int)) ∧ w'.cell? ⟨g, 9, none⟩ = some (.int .u64 (n9 : Int)) ∧ w'.cell? ⟨g, 10, none⟩ = some (.int .u64 (n10 : Int)) ∧ w'.cell? ⟨g, 11, none⟩ = some (.int .u64 (n11 : Int)) ∧ w'.cell? ⟨g, 12, none⟩ = some (.int .u64 (n12 : Int)))
      (first | (with_reducible refine ⟨?_, ?_, ?_, ?_, ?_, ?_, ?_, ?_, ?_, ?_, ?_, ?_⟩ <;> assumption) | go_keep | fail)
      (fail)
    obtain ⟨w2, hw2⟩ : ∃ w2, w2 = (w1.alloc (.cells #[.int .u8 (x.k : Int), .int .u8 (x.n : Int), .int .u32 (x.e : Int), .int .u32 (x.l : Int), .int .u32 (x.t : Int), .int .u32 (x.g : Int), .int .u32 (x.j : Int), .int .u32 (x.v : Int), .int .u8 (x.r : Int), .int .i64 x.c, .int .u32 (x.f : Int), .int .u32 (x.o : Int), .slice ba bl bc] 25)).drew := ⟨_, rfl⟩
    have HR2 := hid (show w2.heap[w1.heap.size]? = some (.cells #[.int .u8 (x.k : Int), .int .u8 (x.n : Int), .int .u32 (x.e : Int), .int .u32 (x.l : Int), .int .u32 (x.t : Int), .int .u32 (x.g : Int), .int .u32 (x.j : Int), .int .u32 (x.v : Int), .int .u8 (x.r : Int), .int .i64 x.c, .int .u32 (x.f : Int), .int .u32 (x.o : Int), .slice ba bl bc] 25 (0, 0)) by rw [hw2]; exact heap_alloc_new w1 _)
    have h12 : Below w1.heap.size w1 w2 := by rw [hw2]; exact below_drew ((Below.refl _ _).alloc (Nat.le_refl _) _)
    have HZ_w2 := hid ((h12.block w.heap.size (by omega)).trans HZ_w1.out)
    have HB_w2 := hid (HB_w1.out.trans (h12.mono (by omega)))
    have HBO2 := hid (HBO.out.below h12)
    have hs2 : w1.heap.size + 1 ≤ w2.heap.size := by rw [hw2]; simp
    rw [← hw2]
    clear hw2 h12
    by_cases hxr : x.right = true
    · go_wp2_with (first | (refine load_st rfl 25 (.tmp 7) rfl w1.heap.size rfl #[.int .u8 (x.k : Int), .int .u8 (x.n : Int), .int .u32 (x.e : Int), .int .u32 (x.l : Int), .int .u32 (x.t : Int), .int .u32 (x.g : Int), .int .u32 (x.j : Int), .int .u32 (x.v : Int), .int .u8 (x.r : Int), .int .i64 x.c, .int .u32 (x.f : Int), .int .u32 (x.o : Int), .slice ba bl bc] _ 13 HR2.out Try.underlying25 size_note rfl ?_) | fail)
      refine (refnote_yes x ba bc bl HL.out w2 HXW.out HBO2.out.rd hxr).mono ?_
      rintro e w3 ⟨kv, rfl, hok, hb3⟩
      have HR3 := hid ((hb3.block w1.heap.size (by omega)).trans HR2.out)
      have HZ_w3 := hid ((hb3.block w.heap.size (by omega)).trans HZ_w2.out)
      have HB_w3 := hid (HB_w2.out.trans (hb3.mono (by omega)))
      have HBO3 := hid (HBO2.out.below hb3)
      have HK := hid hok.rd
      have HXR := hid hxr
      clear hok hb3 hxr
      go_wp2_with fail
      refine (same_any pv kv l (Knot.knot x.enc) w3 (HRDW.out.below HB_w3.out) HK.out).mono ?_
      rintro e w' ⟨rfl, rfl⟩
      by_cases hc : l = Knot.knot x.enc
      · have hb : (l == Knot.knot x.enc) = true := by rw [beq_iff_eq]; exact hc
        rw [hb]
        have HC := hid hc
        clear hc hb
        go_wp2_with (first | (refine load_st rfl 25 (.tmp 7) rfl w1.heap.size rfl #[.int .u8 (x.k : Int), .int .u8 (x.n : Int), .int .u32 (x.e : Int), .int .u32 (x.l : Int), .int .u32 (x.t : Int), .int .u32 (x.g : Int), .int .u32 (x.j : Int), .int .u32 (x.v : Int), .int .u8 (x.r : Int), .int .i64 x.c, .int .u32 (x.f : Int), .int .u32 (x.o : Int), .slice ba bl bc] _ 13 HR3.out Try.underlying25 size_note rfl ?_) | (refine store_st rfl 25 (.tmp 2) (.tmp 84) rfl w.heap.size #[.int .u8 (x.k : Int), .int .u8 (x.n : Int), .int .u32 (x.e : Int), .int .u32 (x.l : Int), .int .u32 (x.t : Int), .int .u32 (x.g : Int), .int .u32 (x.j : Int), .int .u32 (x.v : Int), .int .u8 (x.r : Int), .int .i64 x.c, .int .u32 (x.f : Int), .int .u32 (x.o : Int), .slice ba bl bc] rfl rfl #[.int .u8 0, .int .u8 0, .int .u32 0, .int .u32 0, .int .u32 0, .int .u32 0, .int .u32 0, .int .u32 0, .int .u8 0, .int .i64 0, .int .u32 0, .int .u32 0, .slice none 0 0] 13 HZ_w3.out size_note rfl rfl (by simp [Value.oneCell']) ?_) | fail)
        have HA := hid (show Knot.utext l = x.enc by rw [HC.out]; exact Knot.utext_knot _ (x.enc_length HXR.out))
        refine bodyPost_ret (results_cell2 rfl _ _ _ w.heap.size 25 #[.int .u8 (x.k : Int), .int .u8 (x.n : Int), .int .u32 (x.e : Int), .int .u32 (x.l : Int), .int .u32 (x.t : Int), .int .u32 (x.g : Int), .int .u32 (x.j : Int), .int .u32 (x.v : Int), .int .u8 (x.r : Int), .int .i64 x.c, .int .u32 (x.f : Int), .int .u32 (x.o : Int), .slice ba bl bc] (0, 0) _ rfl rfl (setRow_heap w3 w.heap.size _ _ 25 _ HZ_w3.out) Try.underlying25 size_note) rfl ⟨x, .slice ba bl bc, 0, rfl, .inr (.inl ⟨HU.out, ⟨HXW.out, HXR.out⟩, HA.out, rfl⟩), HXW.out, (HBO3.out.keeps (setRow_keeps w3 w.heap.size _) (fun k hk e => by have := (HBO3.out.lt k hk).1; omega)).base (fun k hk => by have := (HBO3.out.lt k hk).1; omega), HB_w3.out.trans (setRow_below _ (Nat.le_refl _))⟩
      · have hb : (l == Knot.knot x.enc) = false := by rw [beq_eq_false_iff_ne]; exact hc
        rw [hb]
        have HNE := hid hc
        clear hc hb
        go_wp2_with (first | (refine store_st rfl 25 (.tmp 2) (.tmp 83) rfl w.heap.size #[.int .u8 0, .int .u8 0, .int .u32 0, .int .u32 0, .int .u32 0, .int .u32 0, .int .u32 0, .int .u32 0, .int .u8 0, .int .i64 0, .int .u32 0, .int .u32 0, .slice none 0 0] rfl rfl #[.int .u8 0, .int .u8 0, .int .u32 0, .int .u32 0, .int .u32 0, .int .u32 0, .int .u32 0, .int .u32 0, .int .u8 0, .int .i64 0, .int .u32 0, .int .u32 0, .slice none 0 0] 13 HZ_w3.out size_note rfl rfl (by simp [Value.oneCell']) ?_) | fail)
        refine bodyPost_ret (results_cell2 rfl _ _ _ w.heap.size 25 #[.int .u8 0, .int .u8 0, .int .u32 0, .int .u32 0, .int .u32 0, .int .u32 0, .int .u32 0, .int .u32 0, .int .u8 0, .int .i64 0, .int .u32 0, .int .u32 0, .slice none 0 0] (0, 0) _ rfl rfl (setRow_heap w3 w.heap.size _ _ 25 _ HZ_w3.out) Try.underlying25 size_note) rfl ⟨Note.N.zero, .slice none 0 0, 4, rfl, .inr (.inr ⟨HU.out, (fun y hy he => by
              have hxy : x = y := by rw [HX.out, HNS.out, HBB.out]; exact Note.N.row_is l y hy he
              exact HNE.out ((Knot.knot_of_uerr l HU.out).1.trans (by rw [he, hxy]))), rfl, rfl⟩), (by unfold Note.N.wf Note.N.zero; simp), Own.nil _ _, HB_w3.out.trans (setRow_below _ (Nat.le_refl _))⟩
    · have hxr2 : x.right = false := by simpa using hxr
      go_wp2_with (first | (refine load_st rfl 25 (.tmp 7) rfl w1.heap.size rfl #[.int .u8 (x.k : Int), .int .u8 (x.n : Int), .int .u32 (x.e : Int), .int .u32 (x.l : Int), .int .u32 (x.t : Int), .int .u32 (x.g : Int), .int .u32 (x.j : Int), .int .u32 (x.v : Int), .int .u8 (x.r : Int), .int .i64 x.c, .int .u32 (x.f : Int), .int .u32 (x.o : Int), .slice ba bl bc] _ 13 HR2.out Try.underlying25 size_note rfl ?_) | fail)
      refine (refnote_no x ba bc bl HL.out w2 HXW.out hxr2).mono ?_
      rintro e w3 ⟨rfl, hb3⟩
      have HZ_w3 := hid ((hb3.block w.heap.size (by omega)).trans HZ_w2.out)
      have HB_w3 := hid (HB_w2.out.trans (hb3.mono (by omega)))
      clear hb3
      go_wp2_with (first | (refine store_st rfl 25 (.tmp 2) (.tmp 83) rfl w.heap.size #[.int .u8 0, .int .u8 0, .int .u32 0, .int .u32 0, .int .u32 0, .int .u32 0, .int .u32 0, .int .u32 0, .int .u8 0, .int .i64 0, .int .u32 0, .int .u32 0, .slice none 0 0] rfl rfl #[.int .u8 0, .int .u8 0, .int .u32 0, .int .u32 0, .int .u32 0, .int .u32 0, .int .u32 0, .int .u32 0, .int .u8 0, .int .i64 0, .int .u32 0, .int .u32 0, .slice none 0 0] 13 HZ_w3.out size_note rfl rfl (by simp [Value.oneCell']) ?_) | fail)
      refine bodyPost_ret (results_cell2 rfl _ _ _ w.heap.size 25 #[.int .u8 0, .int .u8 0, .int .u32 0, .int .u32 0, .int .u32 0, .int .u32 0, .int .u32 0, .int .u32 0, .int .u8 0, .int .i64 0, .int .u32 0, .int .u32 0, .slice none 0 0] (0, 0) _ rfl rfl (setRow_heap w3 w.heap.size _ _ 25 _ HZ_w3.out) Try.underlying25 size_note) rfl ⟨Note.N.zero, .slice none 0 0, 4, rfl, .inr (.inr ⟨HU.out, (fun y hy he => by
            have hxy : x = y := by rw [HX.out, HNS.out, HBB.out]; exact Note.N.row_is l y hy he
            have := hy.2
            rw [← hxy, hxr2] at this
            cases this), rfl, rfl⟩), (by unfold Note.N.wf Note.N.zero; simp), Own.nil _ _, HB_w3.out.trans (setRow_below _ (Nat.le_refl _))⟩

set_option maxRecDepth 100000 in
set_option maxHeartbeats 4000000 in
theorem refrequest_read (pv : Value) (l : List UInt8) (w : World) (hrd : Rd w pv l) (hl : l.length ≤ 100000) :
    Calls Try.prog 21 #[pv] w fun e w' => ∃ (x : Note.Q) (ec : Int), e = .returned (.tuple #[.agg #[.int .u8 (x.cl : Int), .int .u32 (x.s : Int), .int .u8 (x.k : Int), .int .u8 (x.t : Int), .int .i64 x.kk, .int .i64 x.w, .int .u32 (x.j : Int)], .int .i64 ec]) ∧ Note.Ans Note.Q.ok Note.Q.enc Note.Q.zero l x ec ∧ x.wf ∧ Below w.heap.size w w' := by
  have HRD := hid (hrd.alloc (.cells #[.int .u8 0, .int .u32 0, .int .u8 0, .int .u8 0, .int .i64 0, .int .i64 0, .int .u32 0] 48))
  have HRDW := hid hrd
  have HZ0 := hid (heap_alloc_new w (.cells #[.int .u8 0, .int .u32 0, .int .u8 0, .int .u8 0, .int .i64 0, .int .i64 0, .int .u32 0] 48))
  have HB0 := hid ((Below.refl w.heap.size w).alloc (Nat.le_refl _) (.cells #[.int .u8 0, .int .u32 0, .int .u8 0, .int .u8 0, .int .i64 0, .int .i64 0, .int .u32 0] 48))
  clear hrd
  go_enter Try.func21, Try.ntmps21
  go_wp2_with fail
  refine (row_any pv l 8 false _ HRD.out hl (by omega)).mono ?_
  rintro e w1 ⟨lv, bv, ec, rfl, hb1, hcase⟩
  have HZ_w1 := hid ((hb1.block w.heap.size (by simp)).trans HZ0.out)
  have HB_w1 := hid (HB0.out.trans (hb1.mono (by simp)))
  have hs1 := hb1.size
  simp at hs1
  rcases hcase with ⟨hu, he⟩ | ⟨hu, hse, he⟩ | ⟨hu, hse, how, hob, he⟩
  · have hq : ((ec : Int) != 0) = true := by rw [bne_iff_ne, he]; exact hu
    have HE := hid he
    have HU := hid hu
    clear hu he hb1
    go_wp2_with (first | (refine store_st rfl 48 (.tmp 2) (.tmp 18) rfl w.heap.size #[.int .u8 0, .int .u32 0, .int .u8 0, .int .u8 0, .int .i64 0, .int .i64 0, .int .u32 0] rfl rfl #[.int .u8 0, .int .u32 0, .int .u8 0, .int .u8 0, .int .i64 0, .int .i64 0, .int .u32 0] 7 HZ_w1.out size_request rfl rfl (by simp [Value.oneCell']) ?_) | fail)
    refine bodyPost_ret (results_cell2 rfl _ _ _ w.heap.size 48 #[.int .u8 0, .int .u32 0, .int .u8 0, .int .u8 0, .int .i64 0, .int .i64 0, .int .u32 0] (0, 0) _ rfl rfl (setRow_heap w1 w.heap.size _ _ 48 _ HZ_w1.out) Try.underlying48 size_request) rfl ⟨Note.Q.zero, ec, rfl, .inl ⟨HU.out, rfl, HE.out⟩, (by unfold Note.Q.wf Note.Q.zero; simp), HB_w1.out.trans (setRow_below _ (Nat.le_refl _))⟩
  · subst he
    have HE := hid hse
    have HU := hid hu
    clear hu hse hb1
    go_wp2_with (first | (refine store_st rfl 48 (.tmp 2) (.tmp 18) rfl w.heap.size #[.int .u8 0, .int .u32 0, .int .u8 0, .int .u8 0, .int .i64 0, .int .i64 0, .int .u32 0] rfl rfl #[.int .u8 0, .int .u32 0, .int .u8 0, .int .u8 0, .int .i64 0, .int .i64 0, .int .u32 0] 7 HZ_w1.out size_request rfl rfl (by simp [Value.oneCell']) ?_) | fail)
    refine bodyPost_ret (results_cell2 rfl _ _ _ w.heap.size 48 #[.int .u8 0, .int .u32 0, .int .u8 0, .int .u8 0, .int .i64 0, .int .i64 0, .int .u32 0] (0, 0) _ rfl rfl (setRow_heap w1 w.heap.size _ _ 48 _ HZ_w1.out) Try.underlying48 size_request) rfl ⟨Note.Q.zero, 4, rfl, .inr (.inr ⟨HU.out, (fun y hy he => HE.out (by have h1 := y.row_back hy; rw [← he] at h1; rw [h1.1]; exact congrArg Prod.snd h1.2)), rfl, rfl⟩), (by unfold Note.Q.wf Note.Q.zero; simp), HB_w1.out.trans (setRow_below _ (Nat.le_refl _))⟩
  · subst he
    obtain ⟨ns, hns⟩ : ∃ ns, ns = (Note.iterN 8 (some (Knot.utext l))).1 := ⟨_, rfl⟩
    have hnl : ns.length = 8 := by rw [hns]; exact Note.iterN_length _ _
    have hnlt : ∀ q ∈ ns, q < 18446744073709551616 := by rw [hns]; exact Note.iterN_lt _ _
    have hlt : ∀ i, ns.getD i 0 < 18446744073709551616 := fun i => by
      by_cases hi : i < ns.length
      · rw [List.getD_eq_getElem?_getD, List.getElem?_eq_getElem hi]; exact hnlt _ (List.getElem_mem hi)
      · rw [List.getD_eq_getElem?_getD, List.getElem?_eq_none (by omega)]; simp
    obtain ⟨b, hbb⟩ : ∃ b, b = (Note.rowEnd false (Note.iterN 8 (some (Knot.utext l))).2).1 := ⟨_, rfl⟩
    rw [← hns] at how
    rw [← hbb] at hob
    obtain ⟨g, gc, rfl, hg1, hg2, hg3, hg4, hcs⟩ := how.cells (by omega)
    rw [hnl] at hcs hg3 ⊢
    obtain ⟨x, hx⟩ : ∃ x, x = Note.Q.ofRow ns := ⟨_, rfl⟩
    have HXW := hid (show x.wf by rw [hx]; exact Note.Q.ofRow_wf ns hnlt)
    obtain ⟨n1, hn1⟩ : ∃ n1, n1 = ns.getD 1 0 := ⟨_, rfl⟩
    obtain ⟨n2, hn2⟩ : ∃ n2, n2 = ns.getD 2 0 := ⟨_, rfl⟩
    obtain ⟨n3, hn3⟩ : ∃ n3, n3 = ns.getD 3 0 := ⟨_, rfl⟩
    obtain ⟨n4, hn4⟩ : ∃ n4, n4 = ns.getD 4 0 := ⟨_, rfl⟩
    obtain ⟨n5, hn5⟩ : ∃ n5, n5 = ns.getD 5 0 := ⟨_, rfl⟩
    obtain ⟨n6, hn6⟩ : ∃ n6, n6 = ns.getD 6 0 := ⟨_, rfl⟩
    obtain ⟨n7, hn7⟩ : ∃ n7, n7 = ns.getD 7 0 := ⟨_, rfl⟩
    have g1 : w1.cell? ⟨g, 1, none⟩ = some (.int .u64 (n1 : Int)) := by rw [hcs 1 (by omega), ← hn1]
    have g2 : w1.cell? ⟨g, 2, none⟩ = some (.int .u64 (n2 : Int)) := by rw [hcs 2 (by omega), ← hn2]
    have g3 : w1.cell? ⟨g, 3, none⟩ = some (.int .u64 (n3 : Int)) := by rw [hcs 3 (by omega), ← hn3]
    have g4 : w1.cell? ⟨g, 4, none⟩ = some (.int .u64 (n4 : Int)) := by rw [hcs 4 (by omega), ← hn4]
    have g5 : w1.cell? ⟨g, 5, none⟩ = some (.int .u64 (n5 : Int)) := by rw [hcs 5 (by omega), ← hn5]
    have g6 : w1.cell? ⟨g, 6, none⟩ = some (.int .u64 (n6 : Int)) := by rw [hcs 6 (by omega), ← hn6]
    have g7 : w1.cell? ⟨g, 7, none⟩ = some (.int .u64 (n7 : Int)) := by rw [hcs 7 (by omega), ← hn7]
    have v1 : IntKind.u8.wrap (n1 : Int) = (x.cl : Int) := by rw [hx, hn1]; exact wrap_u8 _
    have v2 : IntKind.u32.wrap (n2 : Int) = (x.s : Int) := by rw [hx, hn2]; exact wrap_u32 _
    have v3 : IntKind.u8.wrap (n3 : Int) = (x.k : Int) := by rw [hx, hn3]; exact wrap_u8 _
    have v4 : IntKind.u8.wrap (n4 : Int) = (x.t : Int) := by rw [hx, hn4]; exact wrap_u8 _
    have v5 : IntKind.i64.wrap (n5 : Int) = x.kk := by rw [hx, hn5]; exact wrap_s64 _ (hlt 5)
    have v6 : IntKind.i64.wrap (n6 : Int) = x.w := by rw [hx, hn6]; exact wrap_s64 _ (hlt 6)
    have v7 : IntKind.u32.wrap (n7 : Int) = (x.j : Int) := by rw [hx, hn7]; exact wrap_u32 _
    have HNS := hid hns
    have HBB := hid hbb
    have HX := hid hx
    have HU := hid hu
    have HSE := hid hse
    have HG := hid (And.intro hg1 hg2)
    clear hns hbb hx hu hse hlt hnlt how hob hb1 hcs hn1 hn2 hn3 hn4 hn5 hn6 hn7 
    go_wp2_with fail
    go_region_held3 (fun w' => w'.cell? ⟨g, 1, none⟩ = some (.int .u64 (n1 : Int)) ∧ w'.cell? ⟨g, 2, none⟩ = some (.int .u64 (n2 : Int)) ∧ w'.cell? ⟨g, 3, none⟩ = some (.int .u64 (n3 : Int)) ∧ w'.cell? ⟨g, 4, none⟩ = some (.int .u64 (n4 : Int)) ∧ w'.cell? ⟨g, 5, none⟩ = some (.int .u64 (n5 : Int)) ∧ w'.cell? ⟨g, 6, none⟩ = some (.int .u64 (n6 : Int)) ∧ w'.cell? ⟨g, 7, none⟩ = some (.int .u64 (n7 : Int)))
      (first | (with_reducible refine ⟨?_, ?_, ?_, ?_, ?_, ?_, ?_⟩ <;> assumption) | go_keep | fail)
      (fail)
    obtain ⟨w2, hw2⟩ : ∃ w2, w2 = (w1.alloc (.cells #[.int .u8 (x.cl : Int), .int .u32 (x.s : Int), .int .u8 (x.k : Int), .int .u8 (x.t : Int), .int .i64 x.kk, .int .i64 x.w, .int .u32 (x.j : Int)] 48)).drew := ⟨_, rfl⟩
    have HR2 := hid (show w2.heap[w1.heap.size]? = some (.cells #[.int .u8 (x.cl : Int), .int .u32 (x.s : Int), .int .u8 (x.k : Int), .int .u8 (x.t : Int), .int .i64 x.kk, .int .i64 x.w, .int .u32 (x.j : Int)] 48 (0, 0)) by rw [hw2]; exact heap_alloc_new w1 _)
    have h12 : Below w1.heap.size w1 w2 := by rw [hw2]; exact below_drew ((Below.refl _ _).alloc (Nat.le_refl _) _)
    have HZ_w2 := hid ((h12.block w.heap.size (by omega)).trans HZ_w1.out)
    have HB_w2 := hid (HB_w1.out.trans (h12.mono (by omega)))
    skip
    have hs2 : w1.heap.size + 1 ≤ w2.heap.size := by rw [hw2]; simp
    rw [← hw2]
    clear hw2 h12
    by_cases hxr : x.right = true
    · go_wp2_with (first | (refine load_st rfl 48 (.tmp 7) rfl w1.heap.size rfl #[.int .u8 (x.cl : Int), .int .u32 (x.s : Int), .int .u8 (x.k : Int), .int .u8 (x.t : Int), .int .i64 x.kk, .int .i64 x.w, .int .u32 (x.j : Int)] _ 7 HR2.out Try.underlying48 size_request rfl ?_) | fail)
      refine (refrequest_yes x w2 HXW.out hxr).mono ?_
      rintro e w3 ⟨kv, rfl, hok, hb3⟩
      have HR3 := hid ((hb3.block w1.heap.size (by omega)).trans HR2.out)
      have HZ_w3 := hid ((hb3.block w.heap.size (by omega)).trans HZ_w2.out)
      have HB_w3 := hid (HB_w2.out.trans (hb3.mono (by omega)))
      skip
      have HK := hid hok.rd
      have HXR := hid hxr
      clear hok hb3 hxr
      go_wp2_with fail
      refine (same_any pv kv l (Knot.knot x.enc) w3 (HRDW.out.below HB_w3.out) HK.out).mono ?_
      rintro e w' ⟨rfl, rfl⟩
      by_cases hc : l = Knot.knot x.enc
      · have hb : (l == Knot.knot x.enc) = true := by rw [beq_iff_eq]; exact hc
        rw [hb]
        have HC := hid hc
        clear hc hb
        go_wp2_with (first | (refine load_st rfl 48 (.tmp 7) rfl w1.heap.size rfl #[.int .u8 (x.cl : Int), .int .u32 (x.s : Int), .int .u8 (x.k : Int), .int .u8 (x.t : Int), .int .i64 x.kk, .int .i64 x.w, .int .u32 (x.j : Int)] _ 7 HR3.out Try.underlying48 size_request rfl ?_) | (refine store_st rfl 48 (.tmp 2) (.tmp 63) rfl w.heap.size #[.int .u8 (x.cl : Int), .int .u32 (x.s : Int), .int .u8 (x.k : Int), .int .u8 (x.t : Int), .int .i64 x.kk, .int .i64 x.w, .int .u32 (x.j : Int)] rfl rfl #[.int .u8 0, .int .u32 0, .int .u8 0, .int .u8 0, .int .i64 0, .int .i64 0, .int .u32 0] 7 HZ_w3.out size_request rfl rfl (by simp [Value.oneCell']) ?_) | fail)
        have HA := hid (show Knot.utext l = x.enc by rw [HC.out]; exact Knot.utext_knot _ x.enc_length)
        refine bodyPost_ret (results_cell2 rfl _ _ _ w.heap.size 48 #[.int .u8 (x.cl : Int), .int .u32 (x.s : Int), .int .u8 (x.k : Int), .int .u8 (x.t : Int), .int .i64 x.kk, .int .i64 x.w, .int .u32 (x.j : Int)] (0, 0) _ rfl rfl (setRow_heap w3 w.heap.size _ _ 48 _ HZ_w3.out) Try.underlying48 size_request) rfl ⟨x, 0, rfl, .inr (.inl ⟨HU.out, ⟨HXW.out, HXR.out⟩, HA.out, rfl⟩), HXW.out, HB_w3.out.trans (setRow_below _ (Nat.le_refl _))⟩
      · have hb : (l == Knot.knot x.enc) = false := by rw [beq_eq_false_iff_ne]; exact hc
        rw [hb]
        have HNE := hid hc
        clear hc hb
        go_wp2_with (first | (refine store_st rfl 48 (.tmp 2) (.tmp 62) rfl w.heap.size #[.int .u8 0, .int .u32 0, .int .u8 0, .int .u8 0, .int .i64 0, .int .i64 0, .int .u32 0] rfl rfl #[.int .u8 0, .int .u32 0, .int .u8 0, .int .u8 0, .int .i64 0, .int .i64 0, .int .u32 0] 7 HZ_w3.out size_request rfl rfl (by simp [Value.oneCell']) ?_) | fail)
        refine bodyPost_ret (results_cell2 rfl _ _ _ w.heap.size 48 #[.int .u8 0, .int .u32 0, .int .u8 0, .int .u8 0, .int .i64 0, .int .i64 0, .int .u32 0] (0, 0) _ rfl rfl (setRow_heap w3 w.heap.size _ _ 48 _ HZ_w3.out) Try.underlying48 size_request) rfl ⟨Note.Q.zero, 4, rfl, .inr (.inr ⟨HU.out, (fun y hy he => by
              have hxy : x = y := by rw [HX.out, HNS.out]; exact Note.Q.row_is l y hy he
              exact HNE.out ((Knot.knot_of_uerr l HU.out).1.trans (by rw [he, hxy]))), rfl, rfl⟩), (by unfold Note.Q.wf Note.Q.zero; simp), HB_w3.out.trans (setRow_below _ (Nat.le_refl _))⟩
    · have hxr2 : x.right = false := by simpa using hxr
      go_wp2_with (first | (refine load_st rfl 48 (.tmp 7) rfl w1.heap.size rfl #[.int .u8 (x.cl : Int), .int .u32 (x.s : Int), .int .u8 (x.k : Int), .int .u8 (x.t : Int), .int .i64 x.kk, .int .i64 x.w, .int .u32 (x.j : Int)] _ 7 HR2.out Try.underlying48 size_request rfl ?_) | fail)
      refine (refrequest_no x w2 hxr2).mono ?_
      rintro e w3 ⟨rfl, hb3⟩
      have HZ_w3 := hid ((hb3.block w.heap.size (by omega)).trans HZ_w2.out)
      have HB_w3 := hid (HB_w2.out.trans (hb3.mono (by omega)))
      clear hb3
      go_wp2_with (first | (refine store_st rfl 48 (.tmp 2) (.tmp 62) rfl w.heap.size #[.int .u8 0, .int .u32 0, .int .u8 0, .int .u8 0, .int .i64 0, .int .i64 0, .int .u32 0] rfl rfl #[.int .u8 0, .int .u32 0, .int .u8 0, .int .u8 0, .int .i64 0, .int .i64 0, .int .u32 0] 7 HZ_w3.out size_request rfl rfl (by simp [Value.oneCell']) ?_) | fail)
      refine bodyPost_ret (results_cell2 rfl _ _ _ w.heap.size 48 #[.int .u8 0, .int .u32 0, .int .u8 0, .int .u8 0, .int .i64 0, .int .i64 0, .int .u32 0] (0, 0) _ rfl rfl (setRow_heap w3 w.heap.size _ _ 48 _ HZ_w3.out) Try.underlying48 size_request) rfl ⟨Note.Q.zero, 4, rfl, .inr (.inr ⟨HU.out, (fun y hy he => by
            have hxy : x = y := by rw [HX.out, HNS.out]; exact Note.Q.row_is l y hy he
            have := hy.2
            rw [← hxy, hxr2] at this
            cases this), rfl, rfl⟩), (by unfold Note.Q.wf Note.Q.zero; simp), HB_w3.out.trans (setRow_below _ (Nat.le_refl _))⟩

set_option maxRecDepth 100000 in
set_option maxHeartbeats 4000000 in
theorem refreply_read (pv : Value) (l : List UInt8) (w : World) (hrd : Rd w pv l) (hl : l.length ≤ 100000) :
    Calls Try.prog 23 #[pv] w fun e w' => ∃ (x : Note.R) (ec : Int), e = .returned (.tuple #[.agg #[.int .u8 (x.cl : Int), .int .u32 (x.s : Int), .int .i64 x.e, .int .u32 (x.j : Int), .int .u8 (x.st : Int), .int .i64 x.c], .int .i64 ec]) ∧ Note.Ans Note.R.ok Note.R.enc Note.R.zero l x ec ∧ x.wf ∧ Below w.heap.size w w' := by
  have HRD := hid (hrd.alloc (.cells #[.int .u8 0, .int .u32 0, .int .i64 0, .int .u32 0, .int .u8 0, .int .i64 0] 54))
  have HRDW := hid hrd
  have HZ0 := hid (heap_alloc_new w (.cells #[.int .u8 0, .int .u32 0, .int .i64 0, .int .u32 0, .int .u8 0, .int .i64 0] 54))
  have HB0 := hid ((Below.refl w.heap.size w).alloc (Nat.le_refl _) (.cells #[.int .u8 0, .int .u32 0, .int .i64 0, .int .u32 0, .int .u8 0, .int .i64 0] 54))
  clear hrd
  go_enter Try.func23, Try.ntmps23
  go_wp2_with fail
  refine (row_any pv l 7 false _ HRD.out hl (by omega)).mono ?_
  rintro e w1 ⟨lv, bv, ec, rfl, hb1, hcase⟩
  have HZ_w1 := hid ((hb1.block w.heap.size (by simp)).trans HZ0.out)
  have HB_w1 := hid (HB0.out.trans (hb1.mono (by simp)))
  have hs1 := hb1.size
  simp at hs1
  rcases hcase with ⟨hu, he⟩ | ⟨hu, hse, he⟩ | ⟨hu, hse, how, hob, he⟩
  · have hq : ((ec : Int) != 0) = true := by rw [bne_iff_ne, he]; exact hu
    have HE := hid he
    have HU := hid hu
    clear hu he hb1
    go_wp2_with (first | (refine store_st rfl 54 (.tmp 2) (.tmp 18) rfl w.heap.size #[.int .u8 0, .int .u32 0, .int .i64 0, .int .u32 0, .int .u8 0, .int .i64 0] rfl rfl #[.int .u8 0, .int .u32 0, .int .i64 0, .int .u32 0, .int .u8 0, .int .i64 0] 6 HZ_w1.out size_reply rfl rfl (by simp [Value.oneCell']) ?_) | fail)
    refine bodyPost_ret (results_cell2 rfl _ _ _ w.heap.size 54 #[.int .u8 0, .int .u32 0, .int .i64 0, .int .u32 0, .int .u8 0, .int .i64 0] (0, 0) _ rfl rfl (setRow_heap w1 w.heap.size _ _ 54 _ HZ_w1.out) Try.underlying54 size_reply) rfl ⟨Note.R.zero, ec, rfl, .inl ⟨HU.out, rfl, HE.out⟩, (by unfold Note.R.wf Note.R.zero; simp), HB_w1.out.trans (setRow_below _ (Nat.le_refl _))⟩
  · subst he
    have HE := hid hse
    have HU := hid hu
    clear hu hse hb1
    go_wp2_with (first | (refine store_st rfl 54 (.tmp 2) (.tmp 18) rfl w.heap.size #[.int .u8 0, .int .u32 0, .int .i64 0, .int .u32 0, .int .u8 0, .int .i64 0] rfl rfl #[.int .u8 0, .int .u32 0, .int .i64 0, .int .u32 0, .int .u8 0, .int .i64 0] 6 HZ_w1.out size_reply rfl rfl (by simp [Value.oneCell']) ?_) | fail)
    refine bodyPost_ret (results_cell2 rfl _ _ _ w.heap.size 54 #[.int .u8 0, .int .u32 0, .int .i64 0, .int .u32 0, .int .u8 0, .int .i64 0] (0, 0) _ rfl rfl (setRow_heap w1 w.heap.size _ _ 54 _ HZ_w1.out) Try.underlying54 size_reply) rfl ⟨Note.R.zero, 4, rfl, .inr (.inr ⟨HU.out, (fun y hy he => HE.out (by have h1 := y.row_back hy; rw [← he] at h1; rw [h1.1]; exact congrArg Prod.snd h1.2)), rfl, rfl⟩), (by unfold Note.R.wf Note.R.zero; simp), HB_w1.out.trans (setRow_below _ (Nat.le_refl _))⟩
  · subst he
    obtain ⟨ns, hns⟩ : ∃ ns, ns = (Note.iterN 7 (some (Knot.utext l))).1 := ⟨_, rfl⟩
    have hnl : ns.length = 7 := by rw [hns]; exact Note.iterN_length _ _
    have hnlt : ∀ q ∈ ns, q < 18446744073709551616 := by rw [hns]; exact Note.iterN_lt _ _
    have hlt : ∀ i, ns.getD i 0 < 18446744073709551616 := fun i => by
      by_cases hi : i < ns.length
      · rw [List.getD_eq_getElem?_getD, List.getElem?_eq_getElem hi]; exact hnlt _ (List.getElem_mem hi)
      · rw [List.getD_eq_getElem?_getD, List.getElem?_eq_none (by omega)]; simp
    obtain ⟨b, hbb⟩ : ∃ b, b = (Note.rowEnd false (Note.iterN 7 (some (Knot.utext l))).2).1 := ⟨_, rfl⟩
    rw [← hns] at how
    rw [← hbb] at hob
    obtain ⟨g, gc, rfl, hg1, hg2, hg3, hg4, hcs⟩ := how.cells (by omega)
    rw [hnl] at hcs hg3 ⊢
    obtain ⟨x, hx⟩ : ∃ x, x = Note.R.ofRow ns := ⟨_, rfl⟩
    have HXW := hid (show x.wf by rw [hx]; exact Note.R.ofRow_wf ns hnlt)
    obtain ⟨n1, hn1⟩ : ∃ n1, n1 = ns.getD 1 0 := ⟨_, rfl⟩
    obtain ⟨n2, hn2⟩ : ∃ n2, n2 = ns.getD 2 0 := ⟨_, rfl⟩
    obtain ⟨n3, hn3⟩ : ∃ n3, n3 = ns.getD 3 0 := ⟨_, rfl⟩
    obtain ⟨n4, hn4⟩ : ∃ n4, n4 = ns.getD 4 0 := ⟨_, rfl⟩
    obtain ⟨n5, hn5⟩ : ∃ n5, n5 = ns.getD 5 0 := ⟨_, rfl⟩
    obtain ⟨n6, hn6⟩ : ∃ n6, n6 = ns.getD 6 0 := ⟨_, rfl⟩
    have g1 : w1.cell? ⟨g, 1, none⟩ = some (.int .u64 (n1 : Int)) := by rw [hcs 1 (by omega), ← hn1]
    have g2 : w1.cell? ⟨g, 2, none⟩ = some (.int .u64 (n2 : Int)) := by rw [hcs 2 (by omega), ← hn2]
    have g3 : w1.cell? ⟨g, 3, none⟩ = some (.int .u64 (n3 : Int)) := by rw [hcs 3 (by omega), ← hn3]
    have g4 : w1.cell? ⟨g, 4, none⟩ = some (.int .u64 (n4 : Int)) := by rw [hcs 4 (by omega), ← hn4]
    have g5 : w1.cell? ⟨g, 5, none⟩ = some (.int .u64 (n5 : Int)) := by rw [hcs 5 (by omega), ← hn5]
    have g6 : w1.cell? ⟨g, 6, none⟩ = some (.int .u64 (n6 : Int)) := by rw [hcs 6 (by omega), ← hn6]
    have v1 : IntKind.u8.wrap (n1 : Int) = (x.cl : Int) := by rw [hx, hn1]; exact wrap_u8 _
    have v2 : IntKind.u32.wrap (n2 : Int) = (x.s : Int) := by rw [hx, hn2]; exact wrap_u32 _
    have v3 : IntKind.i64.wrap (n3 : Int) = x.e := by rw [hx, hn3]; exact wrap_s64 _ (hlt 3)
    have v4 : IntKind.u32.wrap (n4 : Int) = (x.j : Int) := by rw [hx, hn4]; exact wrap_u32 _
    have v5 : IntKind.u8.wrap (n5 : Int) = (x.st : Int) := by rw [hx, hn5]; exact wrap_u8 _
    have v6 : IntKind.i64.wrap (n6 : Int) = x.c := by rw [hx, hn6]; exact wrap_s64 _ (hlt 6)
    have HNS := hid hns
    have HBB := hid hbb
    have HX := hid hx
    have HU := hid hu
    have HSE := hid hse
    have HG := hid (And.intro hg1 hg2)
    clear hns hbb hx hu hse hlt hnlt how hob hb1 hcs hn1 hn2 hn3 hn4 hn5 hn6 
    go_wp2_with fail
    go_region_held3 (fun w' => w'.cell? ⟨g, 1, none⟩ = some (.int .u64 (n1 : Int)) ∧ w'.cell? ⟨g, 2, none⟩ = some (.int .u64 (n2 : Int)) ∧ w'.cell? ⟨g, 3, none⟩ = some (.int .u64 (n3 : Int)) ∧ w'.cell? ⟨g, 4, none⟩ = some (.int .u64 (n4 : Int)) ∧ w'.cell? ⟨g, 5, none⟩ = some (.int .u64 (n5 : Int)) ∧ w'.cell? ⟨g, 6, none⟩ = some (.int .u64 (n6 : Int)))
      (first | (with_reducible refine ⟨?_, ?_, ?_, ?_, ?_, ?_⟩ <;> assumption) | go_keep | fail)
      (fail)
    obtain ⟨w2, hw2⟩ : ∃ w2, w2 = (w1.alloc (.cells #[.int .u8 (x.cl : Int), .int .u32 (x.s : Int), .int .i64 x.e, .int .u32 (x.j : Int), .int .u8 (x.st : Int), .int .i64 x.c] 54)).drew := ⟨_, rfl⟩
    have HR2 := hid (show w2.heap[w1.heap.size]? = some (.cells #[.int .u8 (x.cl : Int), .int .u32 (x.s : Int), .int .i64 x.e, .int .u32 (x.j : Int), .int .u8 (x.st : Int), .int .i64 x.c] 54 (0, 0)) by rw [hw2]; exact heap_alloc_new w1 _)
    have h12 : Below w1.heap.size w1 w2 := by rw [hw2]; exact below_drew ((Below.refl _ _).alloc (Nat.le_refl _) _)
    have HZ_w2 := hid ((h12.block w.heap.size (by omega)).trans HZ_w1.out)
    have HB_w2 := hid (HB_w1.out.trans (h12.mono (by omega)))
    skip
    have hs2 : w1.heap.size + 1 ≤ w2.heap.size := by rw [hw2]; simp
    rw [← hw2]
    clear hw2 h12
    by_cases hxr : x.right = true
    · go_wp2_with (first | (refine load_st rfl 54 (.tmp 7) rfl w1.heap.size rfl #[.int .u8 (x.cl : Int), .int .u32 (x.s : Int), .int .i64 x.e, .int .u32 (x.j : Int), .int .u8 (x.st : Int), .int .i64 x.c] _ 6 HR2.out Try.underlying54 size_reply rfl ?_) | fail)
      refine (refreply_yes x w2 HXW.out hxr).mono ?_
      rintro e w3 ⟨kv, rfl, hok, hb3⟩
      have HR3 := hid ((hb3.block w1.heap.size (by omega)).trans HR2.out)
      have HZ_w3 := hid ((hb3.block w.heap.size (by omega)).trans HZ_w2.out)
      have HB_w3 := hid (HB_w2.out.trans (hb3.mono (by omega)))
      skip
      have HK := hid hok.rd
      have HXR := hid hxr
      clear hok hb3 hxr
      go_wp2_with fail
      refine (same_any pv kv l (Knot.knot x.enc) w3 (HRDW.out.below HB_w3.out) HK.out).mono ?_
      rintro e w' ⟨rfl, rfl⟩
      by_cases hc : l = Knot.knot x.enc
      · have hb : (l == Knot.knot x.enc) = true := by rw [beq_iff_eq]; exact hc
        rw [hb]
        have HC := hid hc
        clear hc hb
        go_wp2_with (first | (refine load_st rfl 54 (.tmp 7) rfl w1.heap.size rfl #[.int .u8 (x.cl : Int), .int .u32 (x.s : Int), .int .i64 x.e, .int .u32 (x.j : Int), .int .u8 (x.st : Int), .int .i64 x.c] _ 6 HR3.out Try.underlying54 size_reply rfl ?_) | (refine store_st rfl 54 (.tmp 2) (.tmp 59) rfl w.heap.size #[.int .u8 (x.cl : Int), .int .u32 (x.s : Int), .int .i64 x.e, .int .u32 (x.j : Int), .int .u8 (x.st : Int), .int .i64 x.c] rfl rfl #[.int .u8 0, .int .u32 0, .int .i64 0, .int .u32 0, .int .u8 0, .int .i64 0] 6 HZ_w3.out size_reply rfl rfl (by simp [Value.oneCell']) ?_) | fail)
        have HA := hid (show Knot.utext l = x.enc by rw [HC.out]; exact Knot.utext_knot _ x.enc_length)
        refine bodyPost_ret (results_cell2 rfl _ _ _ w.heap.size 54 #[.int .u8 (x.cl : Int), .int .u32 (x.s : Int), .int .i64 x.e, .int .u32 (x.j : Int), .int .u8 (x.st : Int), .int .i64 x.c] (0, 0) _ rfl rfl (setRow_heap w3 w.heap.size _ _ 54 _ HZ_w3.out) Try.underlying54 size_reply) rfl ⟨x, 0, rfl, .inr (.inl ⟨HU.out, ⟨HXW.out, HXR.out⟩, HA.out, rfl⟩), HXW.out, HB_w3.out.trans (setRow_below _ (Nat.le_refl _))⟩
      · have hb : (l == Knot.knot x.enc) = false := by rw [beq_eq_false_iff_ne]; exact hc
        rw [hb]
        have HNE := hid hc
        clear hc hb
        go_wp2_with (first | (refine store_st rfl 54 (.tmp 2) (.tmp 58) rfl w.heap.size #[.int .u8 0, .int .u32 0, .int .i64 0, .int .u32 0, .int .u8 0, .int .i64 0] rfl rfl #[.int .u8 0, .int .u32 0, .int .i64 0, .int .u32 0, .int .u8 0, .int .i64 0] 6 HZ_w3.out size_reply rfl rfl (by simp [Value.oneCell']) ?_) | fail)
        refine bodyPost_ret (results_cell2 rfl _ _ _ w.heap.size 54 #[.int .u8 0, .int .u32 0, .int .i64 0, .int .u32 0, .int .u8 0, .int .i64 0] (0, 0) _ rfl rfl (setRow_heap w3 w.heap.size _ _ 54 _ HZ_w3.out) Try.underlying54 size_reply) rfl ⟨Note.R.zero, 4, rfl, .inr (.inr ⟨HU.out, (fun y hy he => by
              have hxy : x = y := by rw [HX.out, HNS.out]; exact Note.R.row_is l y hy he
              exact HNE.out ((Knot.knot_of_uerr l HU.out).1.trans (by rw [he, hxy]))), rfl, rfl⟩), (by unfold Note.R.wf Note.R.zero; simp), HB_w3.out.trans (setRow_below _ (Nat.le_refl _))⟩
    · have hxr2 : x.right = false := by simpa using hxr
      go_wp2_with (first | (refine load_st rfl 54 (.tmp 7) rfl w1.heap.size rfl #[.int .u8 (x.cl : Int), .int .u32 (x.s : Int), .int .i64 x.e, .int .u32 (x.j : Int), .int .u8 (x.st : Int), .int .i64 x.c] _ 6 HR2.out Try.underlying54 size_reply rfl ?_) | fail)
      refine (refreply_no x w2 hxr2).mono ?_
      rintro e w3 ⟨rfl, hb3⟩
      have HZ_w3 := hid ((hb3.block w.heap.size (by omega)).trans HZ_w2.out)
      have HB_w3 := hid (HB_w2.out.trans (hb3.mono (by omega)))
      clear hb3
      go_wp2_with (first | (refine store_st rfl 54 (.tmp 2) (.tmp 58) rfl w.heap.size #[.int .u8 0, .int .u32 0, .int .i64 0, .int .u32 0, .int .u8 0, .int .i64 0] rfl rfl #[.int .u8 0, .int .u32 0, .int .i64 0, .int .u32 0, .int .u8 0, .int .i64 0] 6 HZ_w3.out size_reply rfl rfl (by simp [Value.oneCell']) ?_) | fail)
      refine bodyPost_ret (results_cell2 rfl _ _ _ w.heap.size 54 #[.int .u8 0, .int .u32 0, .int .i64 0, .int .u32 0, .int .u8 0, .int .i64 0] (0, 0) _ rfl rfl (setRow_heap w3 w.heap.size _ _ 54 _ HZ_w3.out) Try.underlying54 size_reply) rfl ⟨Note.R.zero, 4, rfl, .inr (.inr ⟨HU.out, (fun y hy he => by
            have hxy : x = y := by rw [HX.out, HNS.out]; exact Note.R.row_is l y hy he
            have := hy.2
            rw [← hxy, hxr2] at this
            cases this), rfl, rfl⟩), (by unfold Note.R.wf Note.R.zero; simp), HB_w3.out.trans (setRow_below _ (Nat.le_refl _))⟩

set_option maxRecDepth 100000 in
set_option maxHeartbeats 4000000 in
theorem refpacket_read (pv : Value) (l : List UInt8) (w : World) (hrd : Rd w pv l) (hl : l.length ≤ 100000) :
    Calls Try.prog 24 #[pv] w fun e w' => ∃ (x : Note.P) (bv : Value) (ec : Int), e = .returned (.tuple #[.agg #[.int .u8 (x.n : Int), .int .u32 (x.e : Int), .int .u32 (x.l : Int), .int .u32 (x.s : Int), .int .u32 (x.a : Int), .bool x.p, bv], .int .i64 ec]) ∧ Note.Ans Note.P.ok Note.P.enc Note.P.zero l x ec ∧ x.wf ∧ Own w' w.heap.size bv x.b ∧ Below w.heap.size w w' := by
  have HRD := hid (hrd.alloc (.cells #[.int .u8 0, .int .u32 0, .int .u32 0, .int .u32 0, .int .u32 0, .bool false, .slice none 0 0] 38))
  have HRDW := hid hrd
  have HZ0 := hid (heap_alloc_new w (.cells #[.int .u8 0, .int .u32 0, .int .u32 0, .int .u32 0, .int .u32 0, .bool false, .slice none 0 0] 38))
  have HB0 := hid ((Below.refl w.heap.size w).alloc (Nat.le_refl _) (.cells #[.int .u8 0, .int .u32 0, .int .u32 0, .int .u32 0, .int .u32 0, .bool false, .slice none 0 0] 38))
  clear hrd
  go_enter Try.func24, Try.ntmps24
  go_wp2_with fail
  refine (row_any pv l 7 true _ HRD.out hl (by omega)).mono ?_
  rintro e w1 ⟨lv, bv, ec, rfl, hb1, hcase⟩
  have HZ_w1 := hid ((hb1.block w.heap.size (by simp)).trans HZ0.out)
  have HB_w1 := hid (HB0.out.trans (hb1.mono (by simp)))
  have hs1 := hb1.size
  simp at hs1
  rcases hcase with ⟨hu, he⟩ | ⟨hu, hse, he⟩ | ⟨hu, hse, how, hob, he⟩
  · have hq : ((ec : Int) != 0) = true := by rw [bne_iff_ne, he]; exact hu
    have HE := hid he
    have HU := hid hu
    clear hu he hb1
    go_wp2_with (first | (refine store_st rfl 38 (.tmp 2) (.tmp 18) rfl w.heap.size #[.int .u8 0, .int .u32 0, .int .u32 0, .int .u32 0, .int .u32 0, .bool false, .slice none 0 0] rfl rfl #[.int .u8 0, .int .u32 0, .int .u32 0, .int .u32 0, .int .u32 0, .bool false, .slice none 0 0] 7 HZ_w1.out size_packet rfl rfl (by simp [Value.oneCell']) ?_) | fail)
    refine bodyPost_ret (results_cell2 rfl _ _ _ w.heap.size 38 #[.int .u8 0, .int .u32 0, .int .u32 0, .int .u32 0, .int .u32 0, .bool false, .slice none 0 0] (0, 0) _ rfl rfl (setRow_heap w1 w.heap.size _ _ 38 _ HZ_w1.out) Try.underlying38 size_packet) rfl ⟨Note.P.zero, .slice none 0 0, ec, rfl, .inl ⟨HU.out, rfl, HE.out⟩, (by unfold Note.P.wf Note.P.zero; simp), Own.nil _ _, HB_w1.out.trans (setRow_below _ (Nat.le_refl _))⟩
  · subst he
    have HE := hid hse
    have HU := hid hu
    clear hu hse hb1
    go_wp2_with (first | (refine store_st rfl 38 (.tmp 2) (.tmp 18) rfl w.heap.size #[.int .u8 0, .int .u32 0, .int .u32 0, .int .u32 0, .int .u32 0, .bool false, .slice none 0 0] rfl rfl #[.int .u8 0, .int .u32 0, .int .u32 0, .int .u32 0, .int .u32 0, .bool false, .slice none 0 0] 7 HZ_w1.out size_packet rfl rfl (by simp [Value.oneCell']) ?_) | fail)
    refine bodyPost_ret (results_cell2 rfl _ _ _ w.heap.size 38 #[.int .u8 0, .int .u32 0, .int .u32 0, .int .u32 0, .int .u32 0, .bool false, .slice none 0 0] (0, 0) _ rfl rfl (setRow_heap w1 w.heap.size _ _ 38 _ HZ_w1.out) Try.underlying38 size_packet) rfl ⟨Note.P.zero, .slice none 0 0, 4, rfl, .inr (.inr ⟨HU.out, (fun y hy he => HE.out (by have h1 := y.row_back hy; rw [← he] at h1; rw [h1.1]; exact congrArg Prod.snd h1.2)), rfl, rfl⟩), (by unfold Note.P.wf Note.P.zero; simp), Own.nil _ _, HB_w1.out.trans (setRow_below _ (Nat.le_refl _))⟩
  · subst he
    obtain ⟨ns, hns⟩ : ∃ ns, ns = (Note.iterN 7 (some (Knot.utext l))).1 := ⟨_, rfl⟩
    have hnl : ns.length = 7 := by rw [hns]; exact Note.iterN_length _ _
    have hnlt : ∀ q ∈ ns, q < 18446744073709551616 := by rw [hns]; exact Note.iterN_lt _ _
    have hlt : ∀ i, ns.getD i 0 < 18446744073709551616 := fun i => by
      by_cases hi : i < ns.length
      · rw [List.getD_eq_getElem?_getD, List.getElem?_eq_getElem hi]; exact hnlt _ (List.getElem_mem hi)
      · rw [List.getD_eq_getElem?_getD, List.getElem?_eq_none (by omega)]; simp
    obtain ⟨b, hbb⟩ : ∃ b, b = (Note.rowEnd true (Note.iterN 7 (some (Knot.utext l))).2).1 := ⟨_, rfl⟩
    rw [← hns] at how
    rw [← hbb] at hob
    obtain ⟨g, gc, rfl, hg1, hg2, hg3, hg4, hcs⟩ := how.cells (by omega)
    rw [hnl] at hcs hg3 ⊢
    obtain ⟨x, hx⟩ : ∃ x, x = Note.P.ofRow ns b := ⟨_, rfl⟩
    have HXW := hid (show x.wf by rw [hx]; exact Note.P.ofRow_wf ns b)
    obtain ⟨ba, bc, ebv, _⟩ := hob.rd
    obtain ⟨bl, hbl⟩ : ∃ bl, bl = b.length := ⟨_, rfl⟩
    rw [← hbl] at ebv
    subst ebv
    have hxb : x.b = b := by rw [hx]; rfl
    have HL := hid (show bl = x.b.length by rw [hxb, hbl])
    have HBO := hid (show Own w1 (w.heap.size + 1) (.slice ba bl bc) x.b by rw [hxb]; exact hob.base (fun k hk => by have := (hob.lt k hk).1; simp at this; omega))
    obtain ⟨n1, hn1⟩ : ∃ n1, n1 = ns.getD 1 0 := ⟨_, rfl⟩
    obtain ⟨n2, hn2⟩ : ∃ n2, n2 = ns.getD 2 0 := ⟨_, rfl⟩
    obtain ⟨n3, hn3⟩ : ∃ n3, n3 = ns.getD 3 0 := ⟨_, rfl⟩
    obtain ⟨n4, hn4⟩ : ∃ n4, n4 = ns.getD 4 0 := ⟨_, rfl⟩
    obtain ⟨n5, hn5⟩ : ∃ n5, n5 = ns.getD 5 0 := ⟨_, rfl⟩
    obtain ⟨n6, hn6⟩ : ∃ n6, n6 = ns.getD 6 0 := ⟨_, rfl⟩
    have g1 : w1.cell? ⟨g, 1, none⟩ = some (.int .u64 (n1 : Int)) := by rw [hcs 1 (by omega), ← hn1]
    have g2 : w1.cell? ⟨g, 2, none⟩ = some (.int .u64 (n2 : Int)) := by rw [hcs 2 (by omega), ← hn2]
    have g3 : w1.cell? ⟨g, 3, none⟩ = some (.int .u64 (n3 : Int)) := by rw [hcs 3 (by omega), ← hn3]
    have g4 : w1.cell? ⟨g, 4, none⟩ = some (.int .u64 (n4 : Int)) := by rw [hcs 4 (by omega), ← hn4]
    have g5 : w1.cell? ⟨g, 5, none⟩ = some (.int .u64 (n5 : Int)) := by rw [hcs 5 (by omega), ← hn5]
    have g6 : w1.cell? ⟨g, 6, none⟩ = some (.int .u64 (n6 : Int)) := by rw [hcs 6 (by omega), ← hn6]
    have v1 : IntKind.u8.wrap (n1 : Int) = (x.n : Int) := by rw [hx, hn1]; exact wrap_u8 _
    have v2 : IntKind.u32.wrap (n2 : Int) = (x.e : Int) := by rw [hx, hn2]; exact wrap_u32 _
    have v3 : IntKind.u32.wrap (n3 : Int) = (x.l : Int) := by rw [hx, hn3]; exact wrap_u32 _
    have v4 : IntKind.u32.wrap (n4 : Int) = (x.s : Int) := by rw [hx, hn4]; exact wrap_u32 _
    have v5 : IntKind.u32.wrap (n5 : Int) = (x.a : Int) := by rw [hx, hn5]; exact wrap_u32 _
    have v6 : ((n6 : Int) == 1) = x.p := by rw [hx, hn6]; simp only [Note.P.ofRow]; rw [Bool.eq_iff_iff]; simp; omega
    have HNS := hid hns
    have HBB := hid hbb
    have HX := hid hx
    have HU := hid hu
    have HSE := hid hse
    have HG := hid (And.intro hg1 hg2)
    clear hns hbb hx hu hse hlt hnlt how hob hb1 hcs hn1 hn2 hn3 hn4 hn5 hn6 hbl hxb
    go_wp2_with fail
    go_region_held3 (fun w' => w'.cell? ⟨g, 1, none⟩ = some (.int .u64 (n1 : Int)) ∧ w'.cell? ⟨g, 2, none⟩ = some (.int .u64 (n2 : Int)) ∧ w'.cell? ⟨g, 3, none⟩ = some (.int .u64 (n3 : Int)) ∧ w'.cell? ⟨g, 4, none⟩ = some (.int .u64 (n4 : Int)) ∧ w'.cell? ⟨g, 5, none⟩ = some (.int .u64 (n5 : Int)) ∧ w'.cell? ⟨g, 6, none⟩ = some (.int .u64 (n6 : Int)))
      (first | (with_reducible refine ⟨?_, ?_, ?_, ?_, ?_, ?_⟩ <;> assumption) | go_keep | fail)
      (fail)
    obtain ⟨w2, hw2⟩ : ∃ w2, w2 = (w1.alloc (.cells #[.int .u8 (x.n : Int), .int .u32 (x.e : Int), .int .u32 (x.l : Int), .int .u32 (x.s : Int), .int .u32 (x.a : Int), .bool x.p, .slice ba bl bc] 38)).drew := ⟨_, rfl⟩
    have HR2 := hid (show w2.heap[w1.heap.size]? = some (.cells #[.int .u8 (x.n : Int), .int .u32 (x.e : Int), .int .u32 (x.l : Int), .int .u32 (x.s : Int), .int .u32 (x.a : Int), .bool x.p, .slice ba bl bc] 38 (0, 0)) by rw [hw2]; exact heap_alloc_new w1 _)
    have h12 : Below w1.heap.size w1 w2 := by rw [hw2]; exact below_drew ((Below.refl _ _).alloc (Nat.le_refl _) _)
    have HZ_w2 := hid ((h12.block w.heap.size (by omega)).trans HZ_w1.out)
    have HB_w2 := hid (HB_w1.out.trans (h12.mono (by omega)))
    have HBO2 := hid (HBO.out.below h12)
    have hs2 : w1.heap.size + 1 ≤ w2.heap.size := by rw [hw2]; simp
    rw [← hw2]
    clear hw2 h12
    by_cases hxr : x.right = true
    · go_wp2_with (first | (refine load_st rfl 38 (.tmp 7) rfl w1.heap.size rfl #[.int .u8 (x.n : Int), .int .u32 (x.e : Int), .int .u32 (x.l : Int), .int .u32 (x.s : Int), .int .u32 (x.a : Int), .bool x.p, .slice ba bl bc] _ 7 HR2.out Try.underlying38 size_packet rfl ?_) | fail)
      refine (refpacket_yes x ba bc bl HL.out w2 HXW.out HBO2.out.rd hxr).mono ?_
      rintro e w3 ⟨kv, rfl, hok, hb3⟩
      have HR3 := hid ((hb3.block w1.heap.size (by omega)).trans HR2.out)
      have HZ_w3 := hid ((hb3.block w.heap.size (by omega)).trans HZ_w2.out)
      have HB_w3 := hid (HB_w2.out.trans (hb3.mono (by omega)))
      have HBO3 := hid (HBO2.out.below hb3)
      have HK := hid hok.rd
      have HXR := hid hxr
      clear hok hb3 hxr
      go_wp2_with fail
      refine (same_any pv kv l (Knot.knot x.enc) w3 (HRDW.out.below HB_w3.out) HK.out).mono ?_
      rintro e w' ⟨rfl, rfl⟩
      by_cases hc : l = Knot.knot x.enc
      · have hb : (l == Knot.knot x.enc) = true := by rw [beq_iff_eq]; exact hc
        rw [hb]
        have HC := hid hc
        clear hc hb
        go_wp2_with (first | (refine load_st rfl 38 (.tmp 7) rfl w1.heap.size rfl #[.int .u8 (x.n : Int), .int .u32 (x.e : Int), .int .u32 (x.l : Int), .int .u32 (x.s : Int), .int .u32 (x.a : Int), .bool x.p, .slice ba bl bc] _ 7 HR3.out Try.underlying38 size_packet rfl ?_) | (refine store_st rfl 38 (.tmp 2) (.tmp 60) rfl w.heap.size #[.int .u8 (x.n : Int), .int .u32 (x.e : Int), .int .u32 (x.l : Int), .int .u32 (x.s : Int), .int .u32 (x.a : Int), .bool x.p, .slice ba bl bc] rfl rfl #[.int .u8 0, .int .u32 0, .int .u32 0, .int .u32 0, .int .u32 0, .bool false, .slice none 0 0] 7 HZ_w3.out size_packet rfl rfl (by simp [Value.oneCell']) ?_) | fail)
        have HA := hid (show Knot.utext l = x.enc by rw [HC.out]; exact Knot.utext_knot _ (x.enc_length HXW.out HXR.out))
        refine bodyPost_ret (results_cell2 rfl _ _ _ w.heap.size 38 #[.int .u8 (x.n : Int), .int .u32 (x.e : Int), .int .u32 (x.l : Int), .int .u32 (x.s : Int), .int .u32 (x.a : Int), .bool x.p, .slice ba bl bc] (0, 0) _ rfl rfl (setRow_heap w3 w.heap.size _ _ 38 _ HZ_w3.out) Try.underlying38 size_packet) rfl ⟨x, .slice ba bl bc, 0, rfl, .inr (.inl ⟨HU.out, ⟨HXW.out, HXR.out⟩, HA.out, rfl⟩), HXW.out, (HBO3.out.keeps (setRow_keeps w3 w.heap.size _) (fun k hk e => by have := (HBO3.out.lt k hk).1; omega)).base (fun k hk => by have := (HBO3.out.lt k hk).1; omega), HB_w3.out.trans (setRow_below _ (Nat.le_refl _))⟩
      · have hb : (l == Knot.knot x.enc) = false := by rw [beq_eq_false_iff_ne]; exact hc
        rw [hb]
        have HNE := hid hc
        clear hc hb
        go_wp2_with (first | (refine store_st rfl 38 (.tmp 2) (.tmp 59) rfl w.heap.size #[.int .u8 0, .int .u32 0, .int .u32 0, .int .u32 0, .int .u32 0, .bool false, .slice none 0 0] rfl rfl #[.int .u8 0, .int .u32 0, .int .u32 0, .int .u32 0, .int .u32 0, .bool false, .slice none 0 0] 7 HZ_w3.out size_packet rfl rfl (by simp [Value.oneCell']) ?_) | fail)
        refine bodyPost_ret (results_cell2 rfl _ _ _ w.heap.size 38 #[.int .u8 0, .int .u32 0, .int .u32 0, .int .u32 0, .int .u32 0, .bool false, .slice none 0 0] (0, 0) _ rfl rfl (setRow_heap w3 w.heap.size _ _ 38 _ HZ_w3.out) Try.underlying38 size_packet) rfl ⟨Note.P.zero, .slice none 0 0, 4, rfl, .inr (.inr ⟨HU.out, (fun y hy he => by
              have hxy : x = y := by rw [HX.out, HNS.out, HBB.out]; exact Note.P.row_is l y hy he
              exact HNE.out ((Knot.knot_of_uerr l HU.out).1.trans (by rw [he, hxy]))), rfl, rfl⟩), (by unfold Note.P.wf Note.P.zero; simp), Own.nil _ _, HB_w3.out.trans (setRow_below _ (Nat.le_refl _))⟩
    · have hxr2 : x.right = false := by simpa using hxr
      go_wp2_with (first | (refine load_st rfl 38 (.tmp 7) rfl w1.heap.size rfl #[.int .u8 (x.n : Int), .int .u32 (x.e : Int), .int .u32 (x.l : Int), .int .u32 (x.s : Int), .int .u32 (x.a : Int), .bool x.p, .slice ba bl bc] _ 7 HR2.out Try.underlying38 size_packet rfl ?_) | fail)
      refine (refpacket_no x ba bc bl HL.out w2 hxr2).mono ?_
      rintro e w3 ⟨rfl, hb3⟩
      have HZ_w3 := hid ((hb3.block w.heap.size (by omega)).trans HZ_w2.out)
      have HB_w3 := hid (HB_w2.out.trans (hb3.mono (by omega)))
      clear hb3
      go_wp2_with (first | (refine store_st rfl 38 (.tmp 2) (.tmp 59) rfl w.heap.size #[.int .u8 0, .int .u32 0, .int .u32 0, .int .u32 0, .int .u32 0, .bool false, .slice none 0 0] rfl rfl #[.int .u8 0, .int .u32 0, .int .u32 0, .int .u32 0, .int .u32 0, .bool false, .slice none 0 0] 7 HZ_w3.out size_packet rfl rfl (by simp [Value.oneCell']) ?_) | fail)
      refine bodyPost_ret (results_cell2 rfl _ _ _ w.heap.size 38 #[.int .u8 0, .int .u32 0, .int .u32 0, .int .u32 0, .int .u32 0, .bool false, .slice none 0 0] (0, 0) _ rfl rfl (setRow_heap w3 w.heap.size _ _ 38 _ HZ_w3.out) Try.underlying38 size_packet) rfl ⟨Note.P.zero, .slice none 0 0, 4, rfl, .inr (.inr ⟨HU.out, (fun y hy he => by
            have hxy : x = y := by rw [HX.out, HNS.out, HBB.out]; exact Note.P.row_is l y hy he
            have := hy.2
            rw [← hxy, hxr2] at this
            cases this), rfl, rfl⟩), (by unfold Note.P.wf Note.P.zero; simp), Own.nil _ _, HB_w3.out.trans (setRow_below _ (Nat.le_refl _))⟩

end Go.Proofs.Ytafpgglebjllbaa
