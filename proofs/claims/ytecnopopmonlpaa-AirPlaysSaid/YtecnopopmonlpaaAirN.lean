/-
  Layer 9: New, Len, isFull, At, Oldest, Clear, the comparing, copied: contracts.
-/
import Derived.Test.YtecnopopmonlpaaAirM
import Derived.Test.YtecnopopmonlpaaClone
import Derived.BigRegion
import Derived.Deep.QuietTactic
import Derived.Deep.RegionHeld3
import Derived.BigQuiet
namespace Go.Proofs.Ytecnopopmonlpaa
open Go.RowKit
set_option linter.unusedVariables false

abbrev AirV (w : World) (base : B9) (b : Nat) (s : Ar) (fv : Value) (PF : List (Fl × Value)) : Prop := ArV w base b 67 73 s fv PF
abbrev AirAt (w : World) (base : B9) (b : Nat) (s : Ar) : Prop := ArAt w base b 67 73 s
abbrev airTs : List TypeId := [67, 73]

theorem arv_new (w : World) (base : B9) (n : Nat) (TA TF : TypeId) (hn : n ≤ 2048) (hb : base.n ≤ w.heap.size) : ArV (w.alloc (.cells #[.int .i64 (n : Int), .int .u64 0, .slice none 0 0] TA)) base w.heap.size TA TF ⟨n, 0, []⟩ (.slice none 0 0) [] :=
  ⟨heap_alloc_new w _, World.ownsRow_nil _ _ _ _, rfl, (fun x hx => by cases hx), hb, ⟨List.Pairwise.nil, (fun f hf => by cases hf), hn, Nat.zero_le _, (fun f hf => by cases hf)⟩, (fun x hx => by cases hx)⟩

set_option maxHeartbeats 1000000 in
theorem airnew_yes (n : Nat) (w : World) (base : B9) (hb : base.n ≤ w.heap.size) (h1 : 1 ≤ n) (h2 : n ≤ 2048) :
    Calls Try.prog 8 #[.int .i64 (n : Int)] w fun e w' => e = .returned (.tuple #[.pointer (some ⟨w.heap.size, 0, none⟩), .int .i64 0]) ∧ AirAt w' base w.heap.size ⟨n, 0, []⟩ ∧ Below w.heap.size w w' := by
  have d1 : ¬ (n : Int) < 1 := by omega
  have d2 : ¬ 2048 < (n : Int) := by omega
  go_enter Try.func8, Try.ntmps8
  go_wp2
  go_ret2
  exact ⟨rfl, ⟨_, _, arv_new w base n _ _ h2 hb⟩, (Below.refl _ _).alloc (Nat.le_refl _) _⟩

set_option maxHeartbeats 1000000 in
theorem airnew_no (n : Int) (w : World) (h : n < 1 ∨ 2048 < n) :
    Calls Try.prog 8 #[.int .i64 n] w fun e w' => e = .returned (.tuple #[.pointer none, .int .i64 1]) ∧ w = w' := by
  by_cases h1 : n < 1
  · go_enter Try.func8, Try.ntmps8
    go_wp2
    go_ret2
    exact ⟨rfl, rfl⟩
  · have h2 : 2048 < n := by omega
    go_enter Try.func8, Try.ntmps8
    go_wp2
    go_ret2
    exact ⟨rfl, rfl⟩

set_option maxHeartbeats 1000000 in
theorem airlen_any (base : B9) (b : Nat) (s : Ar) (w : World) (h : AirAt w base b s) :
    Calls Try.prog 21 #[.pointer (some ⟨b, 0, none⟩)] w fun e w' => e = .returned (.int .i64 (s.l.length : Int)) ∧ w = w' := by
  obtain ⟨fv, PF, hh⟩ := h
  obtain ⟨c0, c1, c2, hf⟩ := hh.cells
  obtain ⟨a, c, rfl, hc1, hc2⟩ := hh.shape
  clear hf hh
  go_enter Try.func21, Try.ntmps21
  go_wp2
  go_ret
  exact ⟨rfl, rfl⟩

theorem airlen_nil (w : World) :
    Calls Try.prog 21 #[.pointer none] w fun e w' => e = .returned (.int .i64 0) ∧ w = w' := by
  go_enter Try.func21, Try.ntmps21
  go_wp2
  go_ret
  exact ⟨rfl, rfl⟩

theorem isnan_u64 (n : Int) (w : World) :
    Calls Try.prog 33 #[.int .u64 n] w fun e w' => e = .returned (.bool false) ∧ w = w' := by
  go_enter Try.func33, Try.ntmps33
  go_wp2
  go_ret
  exact ⟨rfl, rfl⟩

/-- Which of two numbers is the greater one. -/
def cmpI (a b : Nat) : Int := if a < b then -1 else if b < a then 1 else 0

set_option maxHeartbeats 1000000 in
theorem compare_u64 (a b : Nat) (w : World) :
    Calls Try.prog 31 #[.int .u64 (a : Int), .int .u64 (b : Int)] w fun e w' => e = .returned (.int .i64 (cmpI a b)) ∧ w = w' := by
  by_cases h1 : a < b
  · have e1 : (a : Int) < (b : Int) := by omega
    have HE := hid (show cmpI a b = -1 by unfold cmpI; rw [if_pos h1])
    clear h1
    go_enter Try.func31, Try.ntmps31
    go_wp2_with (go_at_call 33; refine (isnan_u64 _ _).mono ?_; rintro e w' ⟨rfl, rfl⟩)
    go_ret
    exact ⟨by rw [HE.out]; rfl, rfl⟩
  · have e1 : ¬ (a : Int) < (b : Int) := by omega
    by_cases h2 : b < a
    · have e2 : (b : Int) < (a : Int) := by omega
      have HE := hid (show cmpI a b = 1 by unfold cmpI; rw [if_neg h1, if_pos h2])
      clear h1 h2
      go_enter Try.func31, Try.ntmps31
      go_wp2_with (go_at_call 33; refine (isnan_u64 _ _).mono ?_; rintro e w' ⟨rfl, rfl⟩)
      go_ret
      exact ⟨by rw [HE.out]; rfl, rfl⟩
    · have e2 : ¬ (b : Int) < (a : Int) := by omega
      have HE := hid (show cmpI a b = 0 by unfold cmpI; rw [if_neg h1, if_neg h2])
      clear h1 h2
      go_enter Try.func31, Try.ntmps31
      go_wp2_with (go_at_call 33; refine (isnan_u64 _ _).mono ?_; rintro e w' ⟨rfl, rfl⟩)
      go_ret
      exact ⟨by rw [HE.out]; rfl, rfl⟩

set_option maxHeartbeats 1000000 in
theorem cmpid_any (a b : Nat) (t : Int) (v : Value) (w : World) :
    Calls Try.prog 30 #[.agg #[.int .u64 (a : Int), .int .i64 t, v], .int .u64 (b : Int)] w fun e w' => e = .returned (.int .i64 (cmpI a b)) ∧ Below w.heap.size w w' := by
  go_enter Try.func30, Try.ntmps30
  go_wp2_with fail
  refine (compare_u64 a b _).mono ?_
  rintro e w' ⟨rfl, rfl⟩
  go_wp2
  go_ret
  exact ⟨rfl, (Below.refl _ _).alloc (Nat.le_refl _) _⟩

set_option maxHeartbeats 1000000 in
theorem copied_any (to : Int) (v : Value) (t : List UInt8) (w : World) (h : Rd w v t) (hl : t.length ≤ 140737488355328) :
    Calls Try.prog 25 #[.agg #[.int .i64 to, v]] w fun e w' => ∃ v', e = .returned (.agg #[.int .i64 to, v']) ∧ Own w' w.heap.size v' t ∧ Below w.heap.size w w' := by
  obtain ⟨va, vc, rfl⟩ := rd_sl h
  have H := hid h
  clear h
  go_enter Try.func25, Try.ntmps25
  go_wp2_with fail
  obtain ⟨w1, hw1⟩ : ∃ w1, w1 = w.alloc (.cells #[.int .i64 to, .slice va t.length vc] 34) := ⟨_, rfl⟩
  rw [← hw1]
  have h1s : w1.heap.size = w.heap.size + 1 := by rw [hw1]; simp
  have hb1 : Below w.heap.size w w1 := by rw [hw1]; exact (Below.refl _ _).alloc (Nat.le_refl _) _
  obtain ⟨w2, hw2⟩ : ∃ w2, w2 = w1.alloc (.cells #[.int .i64 0, .slice none 0 0] 34) := ⟨_, rfl⟩
  rw [← hw2]
  have h2s : w2.heap.size = w.heap.size + 2 := by rw [hw2]; simp [h1s]
  have hb2 : Below w1.heap.size w1 w2 := by rw [hw2]; exact (Below.refl _ _).alloc (Nat.le_refl _) _
  have g1 : w2.heap[w.heap.size]? = some (.cells #[.int .i64 to, .slice va t.length vc] 34 (0, 0)) := (hb2.block _ (by omega)).trans (by rw [hw1]; exact heap_alloc_new w _)
  have g2 : w2.heap[w.heap.size + 1]? = some (.cells #[.int .i64 0, .slice none 0 0] 34 (0, 0)) := by rw [hw2, ← h1s]; exact heap_alloc_new w1 _
  have c0 : w2.drew.cell? ⟨w.heap.size, 0, none⟩ = some (.int .i64 to) := (cell_of_row _ _ _ _ _ _ g1).trans rfl
  have c1 : w2.drew.cell? ⟨w.heap.size, 1, none⟩ = some (.slice va t.length vc) := (cell_of_row _ _ _ _ _ _ g1).trans rfl
  have d0 : w2.cell? ⟨w.heap.size + 1, 0, none⟩ = some (.int .i64 0) := (cell_of_row _ _ _ _ _ _ g2).trans rfl
  have d1 : w2.cell? ⟨w.heap.size + 1, 1, none⟩ = some (.slice none 0 0) := (cell_of_row _ _ _ _ _ _ g2).trans rfl
  have HG2 := hid g2
  have HF := hid (show ∀ j, w2.frozen? ⟨w.heap.size + 1, j, none⟩ = false from fun j => frozen_of_row _ _ _ _ _ g2)
  have HR := hid (show Rd w2.drew (.slice va t.length vc) t from ((H.out.below hb1).below hb2 : Rd w2 (.slice va t.length vc) t).drew)
  have HB2 := hid (show Below w.heap.size w w2 from hb1.trans (hb2.mono (by omega)))
  have H2S := hid h2s
  clear hw1 hw2 hb1 hb2 g1 g2 h1s h2s H
  go_region_held3 (fun w' => w'.cell? ⟨w.heap.size, 0, none⟩ = some (.int .i64 to) ∧ w'.cell? ⟨w.heap.size, 1, none⟩ = some (.slice va t.length vc))
    (first | (refine ⟨?_, ?_⟩ <;> assumption) | go_keep | fail)
    (first | (go_at_call 28; refine (clone_any (.slice va t.length vc) t w2.drew HR.out hl).mono ?_; rintro e w3 ⟨v', rfl, ho, hb⟩; have k0 := (hb.cell (p := ⟨w.heap.size, 0, none⟩) (show w.heap.size < w2.heap.size by have := H2S.out; omega)).trans c0; have k1 := (hb.cell (p := ⟨w.heap.size, 1, none⟩) (show w.heap.size < w2.heap.size by have := H2S.out; omega)).trans c1; have m0 := (hb.cell (p := ⟨w.heap.size + 1, 0, none⟩) (show w.heap.size + 1 < w2.heap.size by have := H2S.out; omega)).trans d0; have m1 := (hb.cell (p := ⟨w.heap.size + 1, 1, none⟩) (show w.heap.size + 1 < w2.heap.size by have := H2S.out; omega)).trans d1; have f0 := (hb.frozen (p := ⟨w.heap.size + 1, 0, none⟩) (show w.heap.size + 1 < w2.heap.size by have := H2S.out; omega)).trans (HF.out 0); have f1 := (hb.frozen (p := ⟨w.heap.size + 1, 1, none⟩) (show w.heap.size + 1 < w2.heap.size by have := H2S.out; omega)).trans (HF.out 1); obtain ⟨xa, xc, ex⟩ := rd_sl ho.rd; subst ex; have HO := hid ho; have HB := hid hb; have HG3 := hid ((hb.block (w.heap.size + 1) (show w.heap.size + 1 < w2.heap.size by have := H2S.out; omega)).trans HG2.out); clear ho hb) | fail)
  go_wp2
  refine bodyPost_ret (results_cell_row (P := Try.prog) rfl _ _ (w.heap.size + 1) 34 #[.int .i64 to, .slice xa t.length xc] (0, 0) _ rfl (by rw [heap_setCell_same _ _ _ _ _ _ (heap_setCell_same _ _ _ _ _ _ HG3.out)]; simp) Try.underlying34 rfl (by kernel_rfl)) rfl ⟨_, rfl, ?_, ?_⟩
  · refine (HO.out.to (fun k hk => ?_)).base (fun k hk => ?_)
    · have h9 : w2.heap.size ≤ k := (HO.out.lt k hk).1
      have h8 := H2S.out
      have hne : k ≠ w.heap.size + 1 := by omega
      exact (Below.heap_setCell _ _ _ _ hne).trans (Below.heap_setCell _ _ _ _ hne)
    · have h9 : w2.heap.size ≤ k := (HO.out.lt k hk).1
      have h8 := H2S.out
      omega
  · exact ((((⟨HB2.out.os, HB2.out.tape, HB2.out.output, HB2.out.size, HB2.out.block⟩ : Below w.heap.size w w2.drew)).trans (HB.out.mono (by have := H2S.out; show w.heap.size ≤ w2.heap.size; omega))).setCell (by simp) _).setCell (by simp) _

end Go.Proofs.Ytecnopopmonlpaa
