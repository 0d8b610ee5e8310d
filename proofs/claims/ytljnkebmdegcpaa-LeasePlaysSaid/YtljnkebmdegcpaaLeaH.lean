/-
  State, Life, Until, Hear.
-/
import Derived.Test.YtljnkebmdegcpaaLeaN
namespace Go.Proofs.Ytljnkebmdegcpaa
open Go.RowKit
set_option linter.unusedVariables false

/-- What is told of a node; of one that there isn't: nothing. -/
def ndI (l : List Nd) (i : Int) : Nd := if i < 0 ∨ (l.length : Int) ≤ i then (0, 0, 0, 0) else nd l i.toNat

set_option maxHeartbeats 1000000 in
theorem state_any (w : World) (b g : Nat) (l : List Nd) (i : Int) (h : BkAt w b g l) :
    Calls Try.prog 14 #[.pointer (some ⟨b, 0, none⟩), .int .i64 i] w fun e w' => e = .returned (.int .u8 ((ndI l i).1 : Int)) ∧ w = w' := by
  have HA := hid (at_any w b g l i h)
  unfold ndp at HA
  unfold ndI
  by_cases hi : i < 0 ∨ (l.length : Int) ≤ i
  · rw [if_pos hi] at *
    clear h hi
    go_enter Try.func14, Try.ntmps14
    go_wp2_with fail
    refine HA.out.mono ?_
    rintro e w' ⟨rfl, rfl⟩
    go_wp2_with fail
    go_ret
    exact ⟨rfl, rfl⟩
  · rw [if_neg hi] at *
    obtain ⟨c0, -, -, -⟩ := h.cells (k := i.toNat) (by omega)
    clear h hi
    generalize (nd l i.toNat).1 = x at *
    generalize i.toNat = j at *
    go_enter Try.func14, Try.ntmps14
    go_wp2_with fail
    refine HA.out.mono ?_
    rintro e w' ⟨rfl, rfl⟩
    go_wp2_with fail
    go_ret
    exact ⟨rfl, rfl⟩

set_option maxHeartbeats 1000000 in
theorem life_any (w : World) (b g : Nat) (l : List Nd) (i : Int) (h : BkAt w b g l) :
    Calls Try.prog 15 #[.pointer (some ⟨b, 0, none⟩), .int .i64 i] w fun e w' => e = .returned (.int .u32 ((ndI l i).2.1 : Int)) ∧ w = w' := by
  have HA := hid (at_any w b g l i h)
  unfold ndp at HA
  unfold ndI
  by_cases hi : i < 0 ∨ (l.length : Int) ≤ i
  · rw [if_pos hi] at *
    clear h hi
    go_enter Try.func15, Try.ntmps15
    go_wp2_with fail
    refine HA.out.mono ?_
    rintro e w' ⟨rfl, rfl⟩
    go_wp2_with fail
    go_ret
    exact ⟨rfl, rfl⟩
  · rw [if_neg hi] at *
    obtain ⟨-, c0, -, -⟩ := h.cells (k := i.toNat) (by omega)
    clear h hi
    generalize (nd l i.toNat).2.1 = x at *
    generalize i.toNat = j at *
    go_enter Try.func15, Try.ntmps15
    go_wp2_with fail
    refine HA.out.mono ?_
    rintro e w' ⟨rfl, rfl⟩
    go_wp2_with fail
    go_ret
    exact ⟨rfl, rfl⟩

set_option maxHeartbeats 1000000 in
theorem until_any (w : World) (b g : Nat) (l : List Nd) (i : Int) (h : BkAt w b g l) :
    Calls Try.prog 16 #[.pointer (some ⟨b, 0, none⟩), .int .i64 i] w fun e w' => e = .returned (.int .u32 ((ndI l i).2.2.2 : Int)) ∧ w = w' := by
  have HA := hid (at_any w b g l i h)
  unfold ndp at HA
  unfold ndI
  by_cases hi : i < 0 ∨ (l.length : Int) ≤ i
  · rw [if_pos hi] at *
    clear h hi
    go_enter Try.func16, Try.ntmps16
    go_wp2_with fail
    refine HA.out.mono ?_
    rintro e w' ⟨rfl, rfl⟩
    go_wp2_with fail
    go_ret
    exact ⟨rfl, rfl⟩
  · rw [if_neg hi] at *
    obtain ⟨-, -, -, c0⟩ := h.cells (k := i.toNat) (by omega)
    clear h hi
    generalize (nd l i.toNat).2.2.2 = x at *
    generalize i.toNat = j at *
    go_enter Try.func16, Try.ntmps16
    go_wp2_with fail
    refine HA.out.mono ?_
    rintro e w' ⟨rfl, rfl⟩
    go_wp2_with fail
    go_ret
    exact ⟨rfl, rfl⟩

set_option maxHeartbeats 1000000 in
theorem hear_out (w : World) (b g : Nat) (l : List Nd) (i : Int) (now life : Nat) (h : BkAt w b g l) (hi : i < 0 ∨ (l.length : Int) ≤ i) :
    Calls Try.prog 11 #[.pointer (some ⟨b, 0, none⟩), .int .i64 i, .int .u32 (now : Int), .int .u32 (life : Int)] w fun e w' => e = .returned (.tuple #[.bool false, .bool false]) ∧ w = w' := by
  have HA := hid (at_out w b g l i h hi)
  clear h hi
  go_enter Try.func11, Try.ntmps11
  go_wp2_with fail
  refine HA.out.mono ?_
  rintro e w' ⟨rfl, rfl⟩
  go_wp2_with fail
  go_ret2
  exact ⟨rfl, rfl⟩

set_option maxHeartbeats 1000000 in
theorem hear_nil (w : World) (i : Int) (now life : Nat) :
    Calls Try.prog 11 #[.pointer none, .int .i64 i, .int .u32 (now : Int), .int .u32 (life : Int)] w fun e w' => e = .returned (.tuple #[.bool false, .bool false]) ∧ w = w' := by
  go_enter Try.func11, Try.ntmps11
  go_wp2_with fail
  refine (at_nil w i).mono ?_
  rintro e w' ⟨rfl, rfl⟩
  go_wp2_with fail
  go_ret2
  exact ⟨rfl, rfl⟩

set_option maxRecDepth 100000 in
set_option maxHeartbeats 4000000 in
theorem hear_in (w : World) (b g : Nat) (l : List Nd) (i now life : Nat) (h : BkAt w b g l) (hi : i < l.length) (hn : now ≤ 4294967295) (hl : life ≤ 4294967295) :
    Calls Try.prog 11 #[.pointer (some ⟨b, 0, none⟩), .int .i64 (i : Int), .int .u32 (now : Int), .int .u32 (life : Int)] w fun e w' =>
      e = .returned (.tuple #[.bool (hear1 now life (nd l i)).2.1, .bool (hear1 now life (nd l i)).2.2]) ∧ BkAt w' b g (l.set i (hear1 now life (nd l i)).1) ∧ Keeps (fun k => k = g) w w' := by
  have HA := hid (at_in w b g l i h hi)
  obtain ⟨c0, c1, c2, c3⟩ := h.cells hi
  have f0 := h.fr (i * 4)
  have f1 := h.fr (i * 4 + 1)
  have f2 := h.fr (i * 4 + 2)
  obtain ⟨o1, o2, o3, o4⟩ := h.ok _ (nd_mem hi)
  obtain ⟨x, hx⟩ : ∃ x, x = nd l i := ⟨_, rfl⟩
  obtain ⟨x0, x1, x2, x3⟩ := x
  rw [← hx] at c0 c1 c2 c3 o1 o2 o3 o4 ⊢
  dsimp only at c0 c1 c2 c3 o1 o2 o3 o4
  have HX := hid hx
  have H := hid h
  by_cases h1 : x1 < life
  · have d1 : decide ((life : Int) > (x1 : Int)) = true := decide_eq_true (by omega)
    have HE := hid (show hear1 now life (x0, x1, x2, x3) = ((1, life, now, max x3 (lat now)), true, decide (x0 ≠ 0)) by unfold hear1; rw [if_pos h1])
    have HW := hid (show ∀ W, W = ((w.setCell ⟨g, i * 4, none⟩ (.int .u8 1)).setCell ⟨g, i * 4 + 1, none⟩ (.int .u32 (life : Int))).setCell ⟨g, i * 4 + 2, none⟩ (.int .u32 (now : Int)) → BkAt W b g (l.set i (1, life, now, x3)) ∧ Keeps (fun k => k = g) w W from by
      rintro W rfl
      have hli : ∀ y, i < (l.set i y).length := fun y => by rw [List.length_set]; exact hi
      have p1 := h.put hi 0 (.int .u8 ((1 : Nat) : Int)) (1, x1, x2, x3) (by omega) (by rw [← hx]; rfl) ⟨by show 1 ≤ 2; omega, o2, o3, o4⟩
      have p2 := p1.put (hli _) 1 (.int .u32 (life : Int)) (1, life, x2, x3) (by omega) (by rw [nd_set hi]; rfl) ⟨by show 1 ≤ 2; omega, hl, o3, o4⟩
      rw [List.set_set] at p2
      have p3 := p2.put (hli _) 2 (.int .u32 (now : Int)) (1, life, now, x3) (by omega) (by rw [nd_set hi]; rfl) ⟨by show 1 ≤ 2; omega, hl, hn, o4⟩
      rw [List.set_set] at p3
      exact ⟨p3, ((ksetL w g _ _).setCell (fun _ => rfl) _).setCell (fun _ => rfl) _⟩)
    have HQ := hid (show ((x0 : Int) != 0) = decide (x0 ≠ 0) by by_cases h0 : x0 = 0 <;> simp [h0])
    have HI := hid hi
    clear h hx hi
    go_enter Try.func11, Try.ntmps11
    go_wp2_with fail
    refine HA.out.mono ?_
    rintro e w' ⟨rfl, rfl⟩
    go_wp2_with fail
    obtain ⟨hW, hKW⟩ := HW.out _ rfl
    have hli : i < (l.set i (1, life, now, x3)).length := by rw [List.length_set]; exact HI.out
    have HN := nd_set HI.out (1, life, now, x3)
    refine (ext_any _ b g _ i now hW hli hn).mono ?_
    rintro e w5 ⟨rfl, hb5, hk5⟩
    rw [HN, List.set_set] at hb5
    have HB5 := hid hb5
    have HK5 := hid (hKW.trans hk5)
    clear hb5 hk5 hW hKW hli HN
    go_wp2_with fail
    go_ret2
    rw [HE.out]
    refine ⟨?_, HB5.out, HK5.out⟩
    exact congrArg (fun q => Ending.returned (.tuple #[.bool true, .bool q])) HQ.out
  · have d1 : decide ((life : Int) > (x1 : Int)) = false := decide_eq_false (by omega)
    by_cases h2 : life = x1 ∧ x0 ≠ 0
    · have HE := hid (show hear1 now life (x0, x1, x2, x3) = ((x0, x1, now, x3), false, false) by unfold hear1; rw [if_neg h1, if_pos h2])
      have d2 : decide ((life : Int) = (x1 : Int)) = true := decide_eq_true (by omega)
      have d3 : decide ((x0 : Int) = 0) = false := decide_eq_false (by omega)
      have p3 := hid (h.put hi 2 (.int .u32 (now : Int)) (x0, x1, now, x3) (by omega) (by rw [← hx]; rfl) ⟨o1, o2, hn, o4⟩)
      have n1 : life = x1 := h2.1
      have n0 : x0 ≠ 0 := h2.2
      clear h hx h2 hi
      go_enter Try.func11, Try.ntmps11
      go_wp2_with fail
      refine HA.out.mono ?_
      rintro e w' ⟨rfl, rfl⟩
      go_wp2_with fail
      go_ret2
      rw [HE.out]
      exact ⟨rfl, p3.out, ksetL w g _ _⟩
    · have HE := hid (show hear1 now life (x0, x1, x2, x3) = ((x0, x1, x2, x3), false, false) by unfold hear1; rw [if_neg h1, if_neg h2])
      have HS := hid (show l.set i (x0, x1, x2, x3) = l from by rw [hx]; unfold nd; rw [List.getD_eq_getElem?_getD, List.getElem?_eq_getElem hi]; exact List.set_getElem_self hi)
      by_cases h3 : life = x1
      · have h4 : x0 = 0 := by omega
        have d2 : decide ((life : Int) = (x1 : Int)) = true := decide_eq_true (by omega)
        have d3 : decide ((x0 : Int) = 0) = true := decide_eq_true (by omega)
        clear h hx h2 hi
        go_enter Try.func11, Try.ntmps11
        go_wp2_with fail
        refine HA.out.mono ?_
        rintro e w' ⟨rfl, rfl⟩
        go_wp2_with fail
        go_ret2
        rw [HE.out]
        exact ⟨rfl, by rw [HS.out]; exact H.out, Keeps.refl _ _⟩
      · have d2 : decide ((life : Int) = (x1 : Int)) = false := decide_eq_false (by omega)
        clear h hx h2 hi
        go_enter Try.func11, Try.ntmps11
        go_wp2_with fail
        refine HA.out.mono ?_
        rintro e w' ⟨rfl, rfl⟩
        go_wp2_with fail
        go_ret2
        rw [HE.out]
        exact ⟨rfl, by rw [HS.out]; exact H.out, Keeps.refl _ _⟩

theorem hear_any (w : World) (b g : Nat) (l : List Nd) (i : Int) (now life : Nat) (h : BkAt w b g l) (hn : now ≤ 4294967295) (hl : life ≤ 4294967295) :
    Calls Try.prog 11 #[.pointer (some ⟨b, 0, none⟩), .int .i64 i, .int .u32 (now : Int), .int .u32 (life : Int)] w fun e w' =>
      e = .returned (.tuple #[.bool (hear l i now life).2.1, .bool (hear l i now life).2.2]) ∧ BkAt w' b g (hear l i now life).1 ∧ Keeps (fun k => k = g) w w' := by
  unfold hear
  by_cases hi : i < 0 ∨ (l.length : Int) ≤ i
  · rw [if_pos hi]
    refine (hear_out w b g l i now life h hi).mono ?_
    rintro e w' ⟨rfl, rfl⟩
    exact ⟨rfl, h, Keeps.refl _ _⟩
  · rw [if_neg hi]
    obtain ⟨k, rfl⟩ : ∃ k : Nat, i = (k : Int) := ⟨i.toNat, by omega⟩
    exact hear_in w b g l k now life h (by omega) hn hl

end Go.Proofs.Ytljnkebmdegcpaa
