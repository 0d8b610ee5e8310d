/-
  Layer 9: Echo, Land: contracts.
-/
import Derived.Test.YtecnopopmonlpaaAirE
namespace Go.Proofs.Ytecnopopmonlpaa
open Go.RowKit
set_option linter.unusedVariables false

/-- The i-th, with the value that its bytes are. -/
theorem ArV.pick {w : World} {base : B9} {b : Nat} {TA TF : TypeId} {s : Ar} {fv : Value} {PF : List (Fl × Value)} (h : ArV w base b TA TF s fv PF) {i : Nat} {x : Fl} (hx : s.l[i]? = some x) :
    ∃ g cap va vc, fv = .slice (some ⟨g, 0, none⟩) s.l.length cap ∧ s.l.length ≤ cap ∧ cap ≤ 9223372036854775807 ∧ Own w base.n (.slice va x.t.length vc) x.t ∧ (∀ k, (Value.slice va x.t.length vc).ownBlock = some k → base.P k) ∧ g < w.heap.size ∧
      w.cell? ⟨g, i * 3, none⟩ = some (.int .u64 (x.id : Int)) ∧ w.cell? ⟨g, i * 3 + 1, none⟩ = some (.int .i64 x.to) ∧ w.cell? ⟨g, i * 3 + 2, none⟩ = some (.slice va x.t.length vc) := by
  have hi : i < s.l.length := (List.getElem?_eq_some_iff.1 hx).1
  have hp : ∃ y, PF[i]? = some y ∧ y.1 = x := by
    rw [h.list, List.getElem?_map] at hx
    cases hy : PF[i]? with
    | none => rw [hy] at hx; cases hx
    | some y => rw [hy] at hx; exact ⟨y, rfl, by simpa using hx⟩
  obtain ⟨y, hy, rfl⟩ := hp
  rcases owns_shape h.row with ⟨e0, e1⟩ | ⟨g, cap, e, hg1, hg2, hc1, hc2⟩
  · rw [h.len] at e1; omega
  · have ho := h.own y (List.mem_of_getElem? hy)
    have hfr := h.far y (List.mem_of_getElem? hy)
    obtain ⟨va, vc, ev⟩ := rd_sl ho.rd
    subst e
    obtain ⟨f0, f1, f2⟩ := h.fcell hy
    rw [ev] at ho f2 hfr
    rw [h.len] at hc1 ⊢
    exact ⟨g, cap, va, vc, rfl, hc1, hc2, ho, hfr, hg2, f0, f1, f2⟩

set_option maxHeartbeats 1000000 in
theorem echo_yes (base : B9) (b i : Nat) (s : Ar) (x : Fl) (w : World) (h : AirAt w base b s) (hb : base.n ≤ w.heap.size) (hx : s.l[i]? = some x) (hr : s.l.length < s.room) (hlast : s.last ≤ 1000000) :
    Calls Try.prog 16 #[.pointer (some ⟨b, 0, none⟩), .int .u64 (x.id : Int)] w fun e w' => e = .returned (.tuple #[.int .u64 ((s.last : Int) + 1), .int .i64 0]) ∧ AirAt w' base b (s.fly x.to x.t) ∧ KT airTs base.n w w' := by
  have hi : i < s.l.length := (List.getElem?_eq_some_iff.1 hx).1
  have HX := hid hx
  have H := hid h
  have HS := hid (show s.ok by obtain ⟨_, _, hh⟩ := h; exact hh.ok)
  have HT := hid (show false = decide (s.room ≤ s.l.length) by simp; omega)
  clear hx h
  go_enter Try.func16, Try.ntmps16
  go_wp2_with fail
  refine (find_any base b x.id s w H.out).mono ?_
  rintro e w5 ⟨r, f, rfl, hf, hb5⟩
  obtain ⟨rfl, rfl⟩ := hf.yes HS.out.1 HX.out
  have HB5 := hid hb5
  have hs5 := hb5.size
  have H5 := hid (H.out.below hb5)
  clear hf hb5
  go_wp2_with fail
  refine (full_any base b s w5 H5.out false HT.out).mono ?_
  rintro e w6 ⟨rfl, hb6⟩
  have HB6 := hid hb6
  have hs6 := hb6.size
  have h6 := H5.out.below hb6
  have H6 := hid h6
  obtain ⟨fv, PF, hh⟩ := h6
  obtain ⟨c0, c1, c2, hfz⟩ := hh.cells
  obtain ⟨g, cap, va, vc, rfl, hc1, hc2, ho, hfr, hg, f0, f1, f2⟩ := hh.pick HX.out
  have HFR := hid hfr
  clear hfr
  have HO := hid ho
  have hi2 : (r : Int) < (s.l.length : Int) := by omega
  clear hb6 hfz hh ho
  go_wp2_with fail
  refine (start_any base b s x.to va vc x.t w6 H6.out (by omega) HO.out HFR.out hr hlast (HS.out.2.2.2.2 x (List.mem_of_getElem? HX.out))).mono ?_
  rintro e w7 ⟨rfl, ha7, hk7⟩
  have HA7 := hid ha7
  have HK7 := hid hk7
  clear ha7 hk7
  go_wp2_with fail
  go_ret2
  exact ⟨rfl, HA7.out, ((KT.of_below HB5.out hb).trans (KT.of_below HB6.out (by omega))).trans HK7.out⟩

set_option maxHeartbeats 1000000 in
theorem echo_full (base : B9) (b i : Nat) (s : Ar) (x : Fl) (w : World) (h : AirAt w base b s) (hx : s.l[i]? = some x) (hr : s.room ≤ s.l.length) :
    Calls Try.prog 16 #[.pointer (some ⟨b, 0, none⟩), .int .u64 (x.id : Int)] w fun e w' => e = .returned (.tuple #[.int .u64 0, .int .i64 8]) ∧ Below w.heap.size w w' := by
  have HX := hid hx
  have H := hid h
  have HS := hid (show s.ok by obtain ⟨_, _, hh⟩ := h; exact hh.ok)
  have HT := hid (show true = decide (s.room ≤ s.l.length) by simpa using hr)
  clear hx h
  go_enter Try.func16, Try.ntmps16
  go_wp2_with fail
  refine (find_any base b x.id s w H.out).mono ?_
  rintro e w5 ⟨r, f, rfl, hf, hb5⟩
  obtain ⟨rfl, rfl⟩ := hf.yes HS.out.1 HX.out
  have HB5 := hid hb5
  have hs5 := hb5.size
  have H5 := hid (H.out.below hb5)
  clear hf hb5
  go_wp2_with fail
  refine (full_any base b s w5 H5.out true HT.out).mono ?_
  rintro e w6 ⟨rfl, hb6⟩
  have HB6 := hid hb6
  clear hb6
  go_wp2_with fail
  go_ret2
  exact ⟨rfl, HB5.out.trans (HB6.out.mono hs5)⟩

set_option maxHeartbeats 1000000 in
theorem echo_no (base : B9) (b id : Nat) (s : Ar) (w : World) (h : AirAt w base b s) (hx : ∀ x ∈ s.l, x.id ≠ id) :
    Calls Try.prog 16 #[.pointer (some ⟨b, 0, none⟩), .int .u64 (id : Int)] w fun e w' => e = .returned (.tuple #[.int .u64 0, .int .i64 6]) ∧ Below w.heap.size w w' := by
  have HX := hid hx
  have H := hid h
  clear hx h
  go_enter Try.func16, Try.ntmps16
  go_wp2_with fail
  refine (find_any base b id s w H.out).mono ?_
  rintro e w5 ⟨r, f, rfl, hf, hb5⟩
  obtain rfl := hf.no HX.out
  have HB5 := hid hb5
  clear hf hb5
  go_wp2_with fail
  go_ret2
  exact ⟨rfl, HB5.out⟩

theorem echo_nil (id : Nat) (w : World) :
    Calls Try.prog 16 #[.pointer none, .int .u64 (id : Int)] w fun e w' => e = .returned (.tuple #[.int .u64 0, .int .i64 6]) ∧ w = w' := by
  go_enter Try.func16, Try.ntmps16
  go_wp2_with fail
  refine (find_nil id w).mono ?_
  rintro e w5 ⟨rfl, rfl⟩
  go_wp2_with fail
  go_ret2
  exact ⟨rfl, rfl⟩

theorem results_cell2' {fn : Func} {p u : Tmp} {ty : TypeId} (h : fn.results = #[.cell p ty, .tmp u]) (tmps : Array Value) (w : World) (v : Value) (g : Nat) (t : TypeId) (cs : Array Value) (fr : Nat × Nat) (fs : Array Field)
    (hp : tmps.getD p undef = .pointer (some ⟨g, 0, none⟩)) (hv : tmps.getD u undef = v) (hg : w.heap[g]? = some (.cells cs t fr))
    (hu : Try.prog.underlying ty = some (.struct fs)) (hi : (Try.prog.info? ty).map (·.size) = some cs.size) :
    (results fn tmps).run Try.prog w = .ok (.tuple #[.agg cs, v]) w := by
  rw [results_cell_tmp h, hp, hv]
  simp [asAddr, run_loadVar_row w g t ty cs fr (.struct fs) hg hu rfl hi]

/-- A new result, set whole. -/
theorem set2 {w : World} {g : Nat} {A B C D : Value} {T : TypeId} (hg : w.heap[g]? = some (.cells #[A, B] T (0, 0))) : ((w.setCell ⟨g, 0, none⟩ C).setCell ⟨g, 1, none⟩ D).heap[g]? = some (.cells #[C, D] T (0, 0)) := by
  rw [heap_setCell_same _ _ _ _ _ _ (heap_setCell_same _ _ _ _ _ _ hg)]
  simp

set_option maxHeartbeats 1000000 in
theorem land_no (base : B9) (b id : Nat) (s : Ar) (w : World) (h : AirAt w base b s) (hx : ∀ x ∈ s.l, x.id ≠ id) :
    Calls Try.prog 13 #[.pointer (some ⟨b, 0, none⟩), .int .u64 (id : Int)] w fun e w' => e = .returned (.tuple #[.agg #[.int .i64 0, .slice none 0 0], .int .i64 6]) ∧ Below w.heap.size w w' := by
  have HX := hid hx
  have hb0 : Below w.heap.size w (w.alloc (.cells #[.int .i64 0, .slice none 0 0] 34)) := (Below.refl _ _).alloc (Nat.le_refl _) _
  have H := hid (h.below hb0)
  have HB0 := hid hb0
  obtain ⟨w0, hw0⟩ : ∃ w0, w0 = w.alloc (.cells #[.int .i64 0, .slice none 0 0] 34) := ⟨_, rfl⟩
  have HG := hid (show w0.heap[w.heap.size]? = some (.cells #[.int .i64 0, .slice none 0 0] 34 (0, 0)) by rw [hw0]; exact heap_alloc_new w _)
  have hlt : w.heap.size < w0.heap.size := by rw [hw0]; simp
  rw [← hw0] at H HB0
  clear hx h hb0
  go_enter Try.func13, Try.ntmps13
  go_wp2_with fail
  rw [← hw0]
  clear hw0
  refine (find_any base b id s w0 H.out).mono ?_
  rintro e w5 ⟨r, f, rfl, hf, hb5⟩
  obtain rfl := hf.no HX.out
  have HB5 := hid hb5
  have g5 := (hb5.block _ hlt).trans HG.out
  have HG5 := hid g5
  have x0 : w5.cell? ⟨w.heap.size, 0, none⟩ = some (.int .i64 0) := (cell_of_row _ _ _ _ _ _ g5).trans rfl
  have x1 : w5.cell? ⟨w.heap.size, 1, none⟩ = some (.slice none 0 0) := (cell_of_row _ _ _ _ _ _ g5).trans rfl
  have z0 : w5.frozen? ⟨w.heap.size, 0, none⟩ = false := frozen_of_row _ _ _ _ _ g5
  have z1 : w5.frozen? ⟨w.heap.size, 1, none⟩ = false := frozen_of_row _ _ _ _ _ g5
  clear hf hb5 g5
  go_wp2_with fail
  refine bodyPost_ret (results_cell2' rfl _ _ _ w.heap.size 34 #[.int .i64 0, .slice none 0 0] (0, 0) _ rfl rfl (set2 HG5.out) Try.underlying34 (by kernel_rfl)) rfl ⟨rfl, ?_⟩
  exact ((HB0.out.trans (HB5.out.mono (by omega))).setCell (by simp) _).setCell (by simp) _

set_option maxHeartbeats 1000000 in
theorem land_nil (id : Nat) (w : World) :
    Calls Try.prog 13 #[.pointer none, .int .u64 (id : Int)] w fun e w' => e = .returned (.tuple #[.agg #[.int .i64 0, .slice none 0 0], .int .i64 6]) ∧ Below w.heap.size w w' := by
  have hb0 : Below w.heap.size w (w.alloc (.cells #[.int .i64 0, .slice none 0 0] 34)) := (Below.refl _ _).alloc (Nat.le_refl _) _
  have HB0 := hid hb0
  obtain ⟨w0, hw0⟩ : ∃ w0, w0 = w.alloc (.cells #[.int .i64 0, .slice none 0 0] 34) := ⟨_, rfl⟩
  have g5 : w0.heap[w.heap.size]? = some (.cells #[.int .i64 0, .slice none 0 0] 34 (0, 0)) := by rw [hw0]; exact heap_alloc_new w _
  have HG5 := hid g5
  rw [← hw0] at HB0
  have x0 : w0.cell? ⟨w.heap.size, 0, none⟩ = some (.int .i64 0) := (cell_of_row _ _ _ _ _ _ g5).trans rfl
  have x1 : w0.cell? ⟨w.heap.size, 1, none⟩ = some (.slice none 0 0) := (cell_of_row _ _ _ _ _ _ g5).trans rfl
  have z0 : w0.frozen? ⟨w.heap.size, 0, none⟩ = false := frozen_of_row _ _ _ _ _ g5
  have z1 : w0.frozen? ⟨w.heap.size, 1, none⟩ = false := frozen_of_row _ _ _ _ _ g5
  clear hb0 g5
  go_enter Try.func13, Try.ntmps13
  go_wp2_with fail
  rw [← hw0]
  clear hw0
  refine (find_nil id w0).mono ?_
  rintro e w5 ⟨rfl, rfl⟩
  go_wp2_with fail
  refine bodyPost_ret (results_cell2' rfl _ _ _ w.heap.size 34 #[.int .i64 0, .slice none 0 0] (0, 0) _ rfl rfl (set2 HG5.out) Try.underlying34 (by kernel_rfl)) rfl ⟨rfl, ?_⟩
  exact (HB0.out.setCell (by simp) _).setCell (by simp) _

set_option maxHeartbeats 2000000 in
theorem land_yes (base : B9) (b i : Nat) (s : Ar) (x : Fl) (w : World) (h : AirAt w base b s) (hb : base.n ≤ w.heap.size) (hx : s.l[i]? = some x) :
    Calls Try.prog 13 #[.pointer (some ⟨b, 0, none⟩), .int .u64 (x.id : Int)] w fun e w' => ∃ va vc, e = .returned (.tuple #[.agg #[.int .i64 x.to, .slice va x.t.length vc], .int .i64 0]) ∧ Own w' w.heap.size (.slice va x.t.length vc) x.t ∧ AirAt w' base b (s.fin i) ∧ KT airTs base.n w w' := by
  have hi : i < s.l.length := (List.getElem?_eq_some_iff.1 hx).1
  have HX := hid hx
  have HS := hid (show s.ok by obtain ⟨_, _, hh⟩ := h; exact hh.ok)
  obtain ⟨w0, hw0⟩ : ∃ w0, w0 = w.alloc (.cells #[.int .i64 0, .slice none 0 0] 34) := ⟨_, rfl⟩
  have hb0 : Below w.heap.size w w0 := by rw [hw0]; exact (Below.refl _ _).alloc (Nat.le_refl _) _
  have H := hid (h.below hb0)
  have HB0 := hid hb0
  have HG := hid (show w0.heap[w.heap.size]? = some (.cells #[.int .i64 0, .slice none 0 0] 34 (0, 0)) by rw [hw0]; exact heap_alloc_new w _)
  have hlt : w0.heap.size = w.heap.size + 1 := by rw [hw0]; simp
  clear hx h hb0
  go_enter Try.func13, Try.ntmps13
  go_wp2_with fail
  rw [← hw0]
  clear hw0
  refine (find_any base b x.id s w0 H.out).mono ?_
  rintro e w5 ⟨r, f, rfl, hf, hb5⟩
  obtain ⟨rfl, rfl⟩ := hf.yes HS.out.1 HX.out
  have HB5 := hid hb5
  have hs5 := hb5.size
  have HG5 := hid ((hb5.block _ (show w.heap.size < w0.heap.size by omega)).trans HG.out)
  have h5 := H.out.below hb5
  have H5 := hid h5
  obtain ⟨fv, PF, hh⟩ := h5
  obtain ⟨c0, c1, c2, hfz⟩ := hh.cells
  obtain ⟨g, cap, va, vc, rfl, hc1, hc2, ho, hfr, hg, f0, f1, f2⟩ := hh.pick HX.out
  have HFR := hid hfr
  clear hfr
  have HO := hid ho
  have hi2 : (r : Int) < (s.l.length : Int) := by omega
  clear hf hb5 hfz hh ho
  go_wp2_with fail
  refine (copied_any x.to (.slice va x.t.length vc) x.t w5 HO.out.rd (HS.out.2.2.2.2 x (List.mem_of_getElem? HX.out))).mono ?_
  rintro e w6 ⟨v', rfl, ho6, hb6⟩
  obtain ⟨xa, xc, ex⟩ := rd_sl ho6.rd
  subst ex
  have HO6 := hid ho6
  have HB6 := hid hb6
  have hs6 := hb6.size
  have HG6 := hid ((hb6.block _ (show w.heap.size < w5.heap.size by omega)).trans HG5.out)
  have H6 := hid (H5.out.below hb6)
  clear ho6 hb6 c0 c1 c2 f0 f1 f2
  go_wp2_with fail
  obtain ⟨w7, hw7⟩ : ∃ w7, w7 = w6.alloc (.cells #[.int .i64 x.to, .slice xa x.t.length xc] 34) := ⟨_, rfl⟩
  have hb7 : Below w6.heap.size w6 w7 := by rw [hw7]; exact (Below.refl _ _).alloc (Nat.le_refl _) _
  have hg7 : w7.heap[w6.heap.size]? = some (.cells #[.int .i64 x.to, .slice xa x.t.length xc] 34 (0, 0)) := by rw [hw7]; exact heap_alloc_new w6 _
  have hs7 : w7.heap.size = w6.heap.size + 1 := by rw [hw7]; simp
  rw [← hw7]
  clear hw7
  have H7 := hid (H6.out.below hb7)
  have HG7 := hid ((hb7.block _ (show w.heap.size < w6.heap.size by omega)).trans HG6.out)
  have HO7 := hid (HO6.out.below hb7)
  have HB7 := hid hb7
  refine (end_any base b r s w7 H7.out (by omega) hi).mono ?_
  rintro e w8 ⟨rfl, ha8, hk8⟩
  have HA8 := hid ha8
  have HK8 := hid hk8
  have HO8 := hid (HO7.out.kt hk8 (by decide))
  have g8 := hk8.block HG7.out (by decide)
  have HG8 := hid g8
  have y8 := hk8.block hg7 (by decide)
  have m0 : w8.cell? ⟨w6.heap.size, 0, none⟩ = some (.int .i64 x.to) := (cell_of_row _ _ _ _ _ _ y8).trans rfl
  have m1 : w8.cell? ⟨w6.heap.size, 1, none⟩ = some (.slice xa x.t.length xc) := (cell_of_row _ _ _ _ _ _ y8).trans rfl
  have n0 : w8.cell? ⟨w.heap.size, 0, none⟩ = some (.int .i64 0) := (cell_of_row _ _ _ _ _ _ g8).trans rfl
  have n1 : w8.cell? ⟨w.heap.size, 1, none⟩ = some (.slice none 0 0) := (cell_of_row _ _ _ _ _ _ g8).trans rfl
  have z0 : w8.frozen? ⟨w.heap.size, 0, none⟩ = false := frozen_of_row _ _ _ _ _ g8
  have z1 : w8.frozen? ⟨w.heap.size, 1, none⟩ = false := frozen_of_row _ _ _ _ _ g8
  clear ha8 hk8 g8 y8 hb7 hg7
  go_wp2_with fail
  have hkk : Keeps (fun k => k = w.heap.size) w8 ((w8.setCell ⟨w.heap.size, 0, none⟩ (.int .i64 x.to)).setCell ⟨w.heap.size, 1, none⟩ (.slice xa x.t.length xc)) := (kset _ _ _ _).trans (kset _ _ _ _)
  refine bodyPost_ret (results_cell2' rfl _ _ _ w.heap.size 34 #[.int .i64 x.to, .slice xa x.t.length xc] (0, 0) _ rfl rfl (set2 HG8.out) Try.underlying34 (by kernel_rfl)) rfl ⟨xa, xc, rfl, owns_base (hv0_own hkk HO8.out HG8.out (by decide)) (by omega), ?_, ?_⟩
  · obtain ⟨fv8, PF8, h8⟩ := HA8.out
    exact ⟨fv8, PF8, h8.kt (KT.of_keeps (ts := [34]) hkk (fun k _ e => by subst e; exact ⟨Nat.le_refl _, _, _, _, HG8.out, by simp⟩) (by have := HK8.out.size; omega)) (by decide) (by decide) (by decide)⟩
  · have hall := ((((KT.of_below HB0.out hb).trans (KT.of_below HB5.out (by omega))).trans (KT.of_below HB6.out (by omega))).trans (KT.of_below HB7.out (by omega))).trans HK8.out
    exact ⟨(hall.keeps).trans' hkk (fun i hi e => by subst e; exact absurd hi (by omega)), hall.below.trans ⟨hkk.os, hkk.tape, hkk.output, hkk.size, fun k hk => hkk.block k (by have := HK8.out.size; omega) (by omega)⟩⟩

end Go.Proofs.Ytecnopopmonlpaa
