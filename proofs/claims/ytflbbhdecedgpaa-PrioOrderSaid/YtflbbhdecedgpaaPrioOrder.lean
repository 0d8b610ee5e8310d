/-
  P11.1: of any two who goes first is told, and of three it goes on: it is an order, and of two that aren't the same just one goes first.
  (The frame behind the walk is the guide's shell, at these parameters.)
-/
import Derived.Test.YtflbbhdecedgpaaRows
import Derived.WalkKit
import Derived.Test.YtflbbhdecedgpaaPrO
import Derived.ProofKit
import Derived.Deep.Cut
import Derived.Deep.CutRange
import Derived.Deep.CutBlock
import Derived.Deep.Grids
import Derived.OpenShut
import Derived.ShutString
import Derived.ChangeOld
import Derived.Below
namespace Go.Proofs.Ytflbbhdecedgpaa.prioOrder
open Go.ChangeShapes Go.WideShapes Go.ChangeAt Go.RowKit
open Go.ChangeMaps (open_string shut_string)
set_option linter.unusedVariables false

theorem own : ownKnob Try.prog.godebug = none := by kernel_rfl
theorem laidOut : laidOutB Try.prog = true := by kernel_rfl

set_option linter.unusedSimpArgs false
theorem zlt {w : World} {g : Nat} {o : Obj} (h : w.heap[g]? = some o) : g < w.heap.size := (Array.getElem?_eq_some_iff.1 h).1
theorem zero3 {w : World} {g : Nat} (h : w.heap[g]? = some (.cells #[.int .u32 0, .int .u8 0, .int .u32 0] 32 (0, 0))) : w.cell? ⟨g, 0, none⟩ = some (.int .u32 0) ∧ w.cell? ⟨g, 1, none⟩ = some (.int .u8 0) ∧ w.cell? ⟨g, 2, none⟩ = some (.int .u32 0) ∧
    w.frozen? ⟨g, 0, none⟩ = false ∧ w.frozen? ⟨g, 1, none⟩ = false ∧ w.frozen? ⟨g, 2, none⟩ = false :=
  ⟨(cell_of_row w _ _ _ _ _ h).trans rfl, (cell_of_row w _ _ _ _ _ h).trans rfl, (cell_of_row w _ _ _ _ _ h).trans rfl, frozen_of_row _ _ _ _ _ h, frozen_of_row _ _ _ _ _ h, frozen_of_row _ _ _ _ _ h⟩
theorem ptr_new {w : World} {g : Nat} {o : Obj} (h : w.heap[g]? = some o) : (Value.pointer (some ⟨w.heap.size, 0, none⟩)) ≠ .pointer (some ⟨g, 0, none⟩) := by
  have := zlt h
  simp only [ne_eq, Value.pointer.injEq, Option.some.injEq, Addr.mk.injEq, not_and]
  intro e; omega
set_option maxRecDepth 100000 in
set_option maxHeartbeats 8000000 in
theorem walk (v0 : Value) (v1 : Value) (v2 : Value) (w : World) (w0 : IsItem w v0) (w1 : IsItem w v1) (w2 : IsItem w v2) :
    Calls Try.prog 4 #[v0, v1, v2] w fun e w' => e = .returned (.bool true) ∧ Below w.heap.size w w' := by
  obtain ⟨a, rfl, -⟩ := w0
  obtain ⟨b, rfl, -⟩ := w1
  obtain ⟨c, rfl, -⟩ := w2
  have HFAB := hid (fun W => first11_any W a b)
  have HFAA := hid (fun W => first11_any W a a)
  have HFBA := hid (fun W => first11_any W b a)
  have HFBC := hid (fun W => first11_any W b c)
  have HFAC := hid (fun W => first11_any W a c)
  have HRAB := hid (fun W => reffirst_any W a b)
  have hAA : decide (Bef a a) = false := decide_eq_false (bef_irr a)
  have HTR := hid (fun (h1 : decide (Bef a b) = true) (h2 : decide (Bef b c) = true) => show decide (Bef a c) = true from decide_eq_true (bef_trans (of_decide_eq_true h1) (of_decide_eq_true h2)))
  have HTO := hid (fun (h : a ≠ b) => show (decide (Bef a b) == decide (Bef b a)) = false from by
    rcases bef_total h with h1 | h1
    · rw [decide_eq_true h1, decide_eq_false (bef_asym h1)]; rfl
    · rw [decide_eq_true h1, decide_eq_false (bef_asym h1)]; rfl)
  rw [hAA] at HFAA
  clear hAA
  unfold itv at *
  obtain ⟨RAB, hRAB⟩ : ∃ r, r = decide (Bef a b) := ⟨_, rfl⟩
  obtain ⟨RBA, hRBA⟩ : ∃ r, r = decide (Bef b a) := ⟨_, rfl⟩
  obtain ⟨RBC, hRBC⟩ : ∃ r, r = decide (Bef b c) := ⟨_, rfl⟩
  obtain ⟨RAC, hRAC⟩ : ∃ r, r = decide (Bef a c) := ⟨_, rfl⟩
  simp only [← hRAB, ← hRBA, ← hRBC, ← hRAC] at HFAB HFBA HFBC HFAC HRAB HTR HTO
  clear hRAB hRBA hRBC hRAC
  obtain ⟨s0, s1, s2⟩ := a
  obtain ⟨t0, t1, t2⟩ := b
  obtain ⟨u0, u1, u2⟩ := c
  dsimp only at *
  go_enter Try.func4, Try.ntmps4
  go_wp2_with fail
  obtain ⟨x1, hx1⟩ : ∃ x, x = w.alloc (.cells #[.int .u32 s0, .int .u8 s1, .int .u32 s2] 29) := ⟨_, rfl⟩
  have hs1 : x1.heap.size = w.heap.size + 1 := by rw [hx1]; simp
  have hb1 : Below w.heap.size w x1 := by rw [hx1]; exact (Below.refl _ _).alloc (Nat.le_refl _) _
  obtain ⟨x2, hx2⟩ : ∃ x, x = x1.alloc (.cells #[.int .u32 t0, .int .u8 t1, .int .u32 t2] 29) := ⟨_, rfl⟩
  have hs2 : x2.heap.size = w.heap.size + 2 := by rw [hx2]; simp [hs1]
  have hb2 : Below x1.heap.size x1 x2 := by rw [hx2]; exact (Below.refl _ _).alloc (Nat.le_refl _) _
  obtain ⟨x3, hx3⟩ : ∃ x, x = x2.alloc (.cells #[.int .u32 u0, .int .u8 u1, .int .u32 u2] 29) := ⟨_, rfl⟩
  have hs3 : x3.heap.size = w.heap.size + 3 := by rw [hx3]; simp [hs2]
  have hb3 : Below x2.heap.size x2 x3 := by rw [hx3]; exact (Below.refl _ _).alloc (Nat.le_refl _) _
  have ga : x3.heap[w.heap.size]? = some (.cells #[.int .u32 s0, .int .u8 s1, .int .u32 s2] 29 (0, 0)) := (hb3.block _ (by omega)).trans ((hb2.block _ (by omega)).trans (by rw [hx1]; exact heap_alloc_new w _))
  have gb : x3.heap[w.heap.size + 1]? = some (.cells #[.int .u32 t0, .int .u8 t1, .int .u32 t2] 29 (0, 0)) := (hb3.block _ (by omega)).trans (by rw [hx2, ← hs1]; exact heap_alloc_new x1 _)
  have gc : x3.heap[w.heap.size + 2]? = some (.cells #[.int .u32 u0, .int .u8 u1, .int .u32 u2] 29 (0, 0)) := by rw [hx3, ← hs2]; exact heap_alloc_new x2 _
  have HBX := hid ((hb1.trans (hb2.mono (by omega))).trans (hb3.mono (by omega)))
  have HBs := hid ga
  have HBt := hid gb
  have HBu := hid gc
  rw [← hx1, ← hx2, ← hx3]
  clear hx1 hx2 hx3 hb1 hb2 hb3 ga gb gc hs1 hs2
  refine Orders.begins (C := []) (by kernel_rfl) ?_
  refine Orders.inv_at (I := fun L A a w => ∃ (b0 b1 b2 b3 b4 b5 b6 b7 b8 : Bool) (v10 v11 v12 v7 v8 v9 : Value), L = #[b0, b1, b2, b3, b4, b5, b6, b7, b8] ∧ a = ((((((A.put (some 10) v10).put (some 11) v11).put (some 12) v12).put (some 7) v7).put (some 8) v8).put (some 9) v9) ∧ Below x3.heap.size x3 w ∧ (b3 = true → b4 = true → v7 ≠ v8) ∧ (b3 = true → b5 = true → v7 ≠ v9) ∧ (b4 = true → b5 = true → v8 ≠ v9) ∧ (b6 = true → b0 = true ∧ b3 = true) ∧ (b7 = true → b1 = true ∧ b4 = true) ∧ (b8 = true → b2 = true ∧ b5 = true) ∧ (b0 = true → v10 = .agg #[.int .u32 s0, .int .u8 s1, .int .u32 s2]) ∧ (b1 = true → v11 = .agg #[.int .u32 t0, .int .u8 t1, .int .u32 t2]) ∧ (b2 = true → v12 = .agg #[.int .u32 u0, .int .u8 u1, .int .u32 u2]) ∧ (b3 = true → (∃ (g : Nat) (z : Array Value), v7 = .pointer (some ⟨g, 0, none⟩) ∧ x3.heap.size ≤ g ∧ w.heap[g]? = some (.cells z 32 (0, 0)) ∧ (b6 = false → z = #[.int .u32 0, .int .u8 0, .int .u32 0]) ∧ (b6 = true → v10 = .agg z))) ∧ (b4 = true → (∃ (g : Nat) (z : Array Value), v8 = .pointer (some ⟨g, 0, none⟩) ∧ x3.heap.size ≤ g ∧ w.heap[g]? = some (.cells z 32 (0, 0)) ∧ (b7 = false → z = #[.int .u32 0, .int .u8 0, .int .u32 0]) ∧ (b7 = true → v11 = .agg z))) ∧ (b5 = true → (∃ (g : Nat) (z : Array Value), v9 = .pointer (some ⟨g, 0, none⟩) ∧ x3.heap.size ≤ g ∧ w.heap[g]? = some (.cells z 32 (0, 0)) ∧ (b8 = false → z = #[.int .u32 0, .int .u8 0, .int .u32 0]) ∧ (b8 = true → v12 = .agg z)))) ?start ?step ?fin (by kernel_rfl)
  case start => exact ⟨false, false, false, false, false, false, false, false, false, undef, undef, undef, undef, undef, undef, rfl, by simp only [Act.put, List.getElem_toArray, List.getElem_cons_succ, List.getElem_cons_zero, List.setIfInBounds_toArray, List.set_cons_zero, List.set_cons_succ], ((Below.refl _ _).drew), (fun h => Bool.noConfusion h), (fun h => Bool.noConfusion h), (fun h => Bool.noConfusion h), (fun h => Bool.noConfusion h), (fun h => Bool.noConfusion h), (fun h => Bool.noConfusion h), (fun h => Bool.noConfusion h), (fun h => Bool.noConfusion h), (fun h => Bool.noConfusion h), (fun h => Bool.noConfusion h), (fun h => Bool.noConfusion h), (fun h => Bool.noConfusion h)⟩
  case step =>
    rintro L a w' i ⟨b0, b1, b2, b3, b4, b5, b6, b7, b8, v10, v11, v12, v7, v8, v9, rfl, rfl, HW, N34, N35, N45, D6, D7, D8, C0, C1, C2, C3, C4, C5⟩ hi
    have hc := ready_bits 9 (fun bs i => match bs with | [b0, b1, b2, b3, b4, b5, b6, b7, b8] => (((i == 0) && !b0) || (((i == 1) && !b1) || (((i == 2) && !b2) || (((i == 3) && !b3) || (((i == 4) && !b4) || (((i == 5) && !b5) || (((i == 6) && !b6 && b0 && b3) || (((i == 7) && !b7 && b1 && b4) || ((i == 8) && !b8 && b2 && b5))))))))) | _ => false) (by kernel_rfl) [b0, b1, b2, b3, b4, b5, b6, b7, b8] rfl hi
    clear hi
    simp only [Bool.or_eq_true, Bool.and_eq_true, beq_iff_eq, Bool.not_eq_true'] at hc
    rcases hc with ⟨rfl, rfl⟩ | ⟨rfl, rfl⟩ | ⟨rfl, rfl⟩ | ⟨rfl, rfl⟩ | ⟨rfl, rfl⟩ | ⟨rfl, rfl⟩ | ⟨⟨⟨rfl, rfl⟩, rfl⟩, rfl⟩ | ⟨⟨⟨rfl, rfl⟩, rfl⟩, rfl⟩ | ⟨⟨⟨rfl, rfl⟩, rfl⟩, rfl⟩
    · refine wpOp_shut rfl (fun K' hK => ?_)
      simp only [Act.put, List.getElem_toArray, List.getElem_cons_succ, List.getElem_cons_zero, List.setIfInBounds_toArray, List.set_cons_zero, List.set_cons_succ]
      have e0 : w'.cell? ⟨w.heap.size, 0, none⟩ = some (.int .u32 s0) := (cell_of_row w' _ _ _ _ _ ((HW.block (w.heap.size) (by omega)).trans HBs.out)).trans rfl
      have e1 : w'.cell? ⟨w.heap.size, 1, none⟩ = some (.int .u8 s1) := (cell_of_row w' _ _ _ _ _ ((HW.block (w.heap.size) (by omega)).trans HBs.out)).trans rfl
      have e2 : w'.cell? ⟨w.heap.size, 2, none⟩ = some (.int .u32 s2) := (cell_of_row w' _ _ _ _ _ ((HW.block (w.heap.size) (by omega)).trans HBs.out)).trans rfl
      go_simp
      refine hK.out _ _ ⟨true, b1, b2, b3, b4, b5, b6, b7, b8, (.agg #[.int .u32 s0, .int .u8 s1, .int .u32 s2]), v11, v12, v7, v8, v9, rfl, by simp only [Act.put, List.getElem_toArray, List.getElem_cons_succ, List.getElem_cons_zero, List.setIfInBounds_toArray, List.set_cons_zero, List.set_cons_succ], HW, N34, N35, N45, (fun h => absurd (D6 h).1 Bool.false_ne_true), D7, D8, (fun _ => rfl), C1, C2, (fun h => by obtain ⟨g, z, e, hg, hz, h1, h2⟩ := C3 h; exact ⟨g, z, e, hg, hz, h1, fun h6 => absurd (D6 h6).1 Bool.false_ne_true⟩), C4, C5⟩
    · refine wpOp_shut rfl (fun K' hK => ?_)
      simp only [Act.put, List.getElem_toArray, List.getElem_cons_succ, List.getElem_cons_zero, List.setIfInBounds_toArray, List.set_cons_zero, List.set_cons_succ]
      have e0 : w'.cell? ⟨w.heap.size + 1, 0, none⟩ = some (.int .u32 t0) := (cell_of_row w' _ _ _ _ _ ((HW.block (w.heap.size + 1) (by omega)).trans HBt.out)).trans rfl
      have e1 : w'.cell? ⟨w.heap.size + 1, 1, none⟩ = some (.int .u8 t1) := (cell_of_row w' _ _ _ _ _ ((HW.block (w.heap.size + 1) (by omega)).trans HBt.out)).trans rfl
      have e2 : w'.cell? ⟨w.heap.size + 1, 2, none⟩ = some (.int .u32 t2) := (cell_of_row w' _ _ _ _ _ ((HW.block (w.heap.size + 1) (by omega)).trans HBt.out)).trans rfl
      go_simp
      refine hK.out _ _ ⟨b0, true, b2, b3, b4, b5, b6, b7, b8, v10, (.agg #[.int .u32 t0, .int .u8 t1, .int .u32 t2]), v12, v7, v8, v9, rfl, by simp only [Act.put, List.getElem_toArray, List.getElem_cons_succ, List.getElem_cons_zero, List.setIfInBounds_toArray, List.set_cons_zero, List.set_cons_succ], HW, N34, N35, N45, D6, (fun h => absurd (D7 h).1 Bool.false_ne_true), D8, C0, (fun _ => rfl), C2, C3, (fun h => by obtain ⟨g, z, e, hg, hz, h1, h2⟩ := C4 h; exact ⟨g, z, e, hg, hz, h1, fun h6 => absurd (D7 h6).1 Bool.false_ne_true⟩), C5⟩
    · refine wpOp_shut rfl (fun K' hK => ?_)
      simp only [Act.put, List.getElem_toArray, List.getElem_cons_succ, List.getElem_cons_zero, List.setIfInBounds_toArray, List.set_cons_zero, List.set_cons_succ]
      have e0 : w'.cell? ⟨w.heap.size + 2, 0, none⟩ = some (.int .u32 u0) := (cell_of_row w' _ _ _ _ _ ((HW.block (w.heap.size + 2) (by omega)).trans HBu.out)).trans rfl
      have e1 : w'.cell? ⟨w.heap.size + 2, 1, none⟩ = some (.int .u8 u1) := (cell_of_row w' _ _ _ _ _ ((HW.block (w.heap.size + 2) (by omega)).trans HBu.out)).trans rfl
      have e2 : w'.cell? ⟨w.heap.size + 2, 2, none⟩ = some (.int .u32 u2) := (cell_of_row w' _ _ _ _ _ ((HW.block (w.heap.size + 2) (by omega)).trans HBu.out)).trans rfl
      go_simp
      refine hK.out _ _ ⟨b0, b1, true, b3, b4, b5, b6, b7, b8, v10, v11, (.agg #[.int .u32 u0, .int .u8 u1, .int .u32 u2]), v7, v8, v9, rfl, by simp only [Act.put, List.getElem_toArray, List.getElem_cons_succ, List.getElem_cons_zero, List.setIfInBounds_toArray, List.set_cons_zero, List.set_cons_succ], HW, N34, N35, N45, D6, D7, (fun h => absurd (D8 h).1 Bool.false_ne_true), C0, C1, (fun _ => rfl), C3, C4, (fun h => by obtain ⟨g, z, e, hg, hz, h1, h2⟩ := C5 h; exact ⟨g, z, e, hg, hz, h1, fun h6 => absurd (D8 h6).1 Bool.false_ne_true⟩)⟩
    · refine wpOp_shut rfl (fun K' hK => ?_)
      simp only [Act.put, List.getElem_toArray, List.getElem_cons_succ, List.getElem_cons_zero, List.setIfInBounds_toArray, List.set_cons_zero, List.set_cons_succ]
      go_simp
      have hb : Below w'.heap.size w' (w'.alloc (.cells #[.int .u32 0, .int .u8 0, .int .u32 0] 32)) := (Below.refl _ w').alloc (Nat.le_refl _) _
      refine hK.out _ _ ⟨b0, b1, b2, true, b4, b5, b6, b7, b8, v10, v11, v12, (.pointer (some ⟨w'.heap.size, 0, none⟩)), v8, v9, rfl, by simp only [Act.put, List.getElem_toArray, List.getElem_cons_succ, List.getElem_cons_zero, List.setIfInBounds_toArray, List.set_cons_zero, List.set_cons_succ], (HW.alloc HW.size _), (fun _ h4 => by obtain ⟨g, z, e, hg, hz, h1, h2⟩ := C4 h4; rw [e]; exact ptr_new hz), (fun _ h4 => by obtain ⟨g, z, e, hg, hz, h1, h2⟩ := C5 h4; rw [e]; exact ptr_new hz), N45, (fun h => absurd (D6 h).2 Bool.false_ne_true), D7, D8, C0, C1, C2, (fun _ => ⟨_, _, rfl, HW.size, heap_alloc_new _ _, fun _ => rfl, fun h6 => absurd (D6 h6).2 Bool.false_ne_true⟩), (fun h => by obtain ⟨g, z, e, hg, hz, h1, h2⟩ := C4 h; exact ⟨g, z, e, hg, (hb.block _ (zlt hz)).trans hz, h1, h2⟩), (fun h => by obtain ⟨g, z, e, hg, hz, h1, h2⟩ := C5 h; exact ⟨g, z, e, hg, (hb.block _ (zlt hz)).trans hz, h1, h2⟩)⟩
    · refine wpOp_shut rfl (fun K' hK => ?_)
      simp only [Act.put, List.getElem_toArray, List.getElem_cons_succ, List.getElem_cons_zero, List.setIfInBounds_toArray, List.set_cons_zero, List.set_cons_succ]
      go_simp
      have hb : Below w'.heap.size w' (w'.alloc (.cells #[.int .u32 0, .int .u8 0, .int .u32 0] 32)) := (Below.refl _ w').alloc (Nat.le_refl _) _
      refine hK.out _ _ ⟨b0, b1, b2, b3, true, b5, b6, b7, b8, v10, v11, v12, v7, (.pointer (some ⟨w'.heap.size, 0, none⟩)), v9, rfl, by simp only [Act.put, List.getElem_toArray, List.getElem_cons_succ, List.getElem_cons_zero, List.setIfInBounds_toArray, List.set_cons_zero, List.set_cons_succ], (HW.alloc HW.size _), (fun h4 _ => by obtain ⟨g, z, e, hg, hz, h1, h2⟩ := C3 h4; rw [e]; exact (ptr_new hz).symm), N35, (fun _ h4 => by obtain ⟨g, z, e, hg, hz, h1, h2⟩ := C5 h4; rw [e]; exact ptr_new hz), D6, (fun h => absurd (D7 h).2 Bool.false_ne_true), D8, C0, C1, C2, (fun h => by obtain ⟨g, z, e, hg, hz, h1, h2⟩ := C3 h; exact ⟨g, z, e, hg, (hb.block _ (zlt hz)).trans hz, h1, h2⟩), (fun _ => ⟨_, _, rfl, HW.size, heap_alloc_new _ _, fun _ => rfl, fun h6 => absurd (D7 h6).2 Bool.false_ne_true⟩), (fun h => by obtain ⟨g, z, e, hg, hz, h1, h2⟩ := C5 h; exact ⟨g, z, e, hg, (hb.block _ (zlt hz)).trans hz, h1, h2⟩)⟩
    · refine wpOp_shut rfl (fun K' hK => ?_)
      simp only [Act.put, List.getElem_toArray, List.getElem_cons_succ, List.getElem_cons_zero, List.setIfInBounds_toArray, List.set_cons_zero, List.set_cons_succ]
      go_simp
      have hb : Below w'.heap.size w' (w'.alloc (.cells #[.int .u32 0, .int .u8 0, .int .u32 0] 32)) := (Below.refl _ w').alloc (Nat.le_refl _) _
      refine hK.out _ _ ⟨b0, b1, b2, b3, b4, true, b6, b7, b8, v10, v11, v12, v7, v8, (.pointer (some ⟨w'.heap.size, 0, none⟩)), rfl, by simp only [Act.put, List.getElem_toArray, List.getElem_cons_succ, List.getElem_cons_zero, List.setIfInBounds_toArray, List.set_cons_zero, List.set_cons_succ], (HW.alloc HW.size _), N34, (fun h4 _ => by obtain ⟨g, z, e, hg, hz, h1, h2⟩ := C3 h4; rw [e]; exact (ptr_new hz).symm), (fun h4 _ => by obtain ⟨g, z, e, hg, hz, h1, h2⟩ := C4 h4; rw [e]; exact (ptr_new hz).symm), D6, D7, (fun h => absurd (D8 h).2 Bool.false_ne_true), C0, C1, C2, (fun h => by obtain ⟨g, z, e, hg, hz, h1, h2⟩ := C3 h; exact ⟨g, z, e, hg, (hb.block _ (zlt hz)).trans hz, h1, h2⟩), (fun h => by obtain ⟨g, z, e, hg, hz, h1, h2⟩ := C4 h; exact ⟨g, z, e, hg, (hb.block _ (zlt hz)).trans hz, h1, h2⟩), (fun _ => ⟨_, _, rfl, HW.size, heap_alloc_new _ _, fun _ => rfl, fun h6 => absurd (D8 h6).2 Bool.false_ne_true⟩)⟩
    · refine wpOp_shut rfl (fun K' hK => ?_)
      simp only [Act.put, List.getElem_toArray, List.getElem_cons_succ, List.getElem_cons_zero, List.setIfInBounds_toArray, List.set_cons_zero, List.set_cons_succ]
      obtain rfl := C0 rfl
      obtain ⟨g, z, rfl, hg, hz, h1, -⟩ := C3 rfl
      obtain rfl := h1 rfl
      obtain ⟨m0, m1, m2, f0, f1, f2⟩ := zero3 hz
      go_simp
      refine hK.out _ _ ⟨true, b1, b2, true, b4, b5, true, b7, b8, (.agg #[.int .u32 s0, .int .u8 s1, .int .u32 s2]), v11, v12, (.pointer (some ⟨g, 0, none⟩)), v8, v9, rfl, by simp only [Act.put, List.getElem_toArray, List.getElem_cons_succ, List.getElem_cons_zero, List.setIfInBounds_toArray, List.set_cons_zero, List.set_cons_succ], (set3_below HW _ _ _ _ _ hg), N34, N35, N45, (fun _ => ⟨rfl, rfl⟩), D7, D8, C0, C1, C2, (fun _ => ⟨g, _, rfl, hg, set3_heap hz, (fun h => Bool.noConfusion h), fun _ => rfl⟩), (fun h => by obtain ⟨g', z', e, hg', hz', h1', h2'⟩ := C4 h; exact ⟨g', z', e, hg', (set3_other _ _ 0 _ _ _ _ (fun e3 => (N34 rfl h) (by rw [e, e3]))).trans hz', h1', h2'⟩), (fun h => by obtain ⟨g', z', e, hg', hz', h1', h2'⟩ := C5 h; exact ⟨g', z', e, hg', (set3_other _ _ 0 _ _ _ _ (fun e3 => (N35 rfl h) (by rw [e, e3]))).trans hz', h1', h2'⟩)⟩
    · refine wpOp_shut rfl (fun K' hK => ?_)
      simp only [Act.put, List.getElem_toArray, List.getElem_cons_succ, List.getElem_cons_zero, List.setIfInBounds_toArray, List.set_cons_zero, List.set_cons_succ]
      obtain rfl := C1 rfl
      obtain ⟨g, z, rfl, hg, hz, h1, -⟩ := C4 rfl
      obtain rfl := h1 rfl
      obtain ⟨m0, m1, m2, f0, f1, f2⟩ := zero3 hz
      go_simp
      refine hK.out _ _ ⟨b0, true, b2, b3, true, b5, b6, true, b8, v10, (.agg #[.int .u32 t0, .int .u8 t1, .int .u32 t2]), v12, v7, (.pointer (some ⟨g, 0, none⟩)), v9, rfl, by simp only [Act.put, List.getElem_toArray, List.getElem_cons_succ, List.getElem_cons_zero, List.setIfInBounds_toArray, List.set_cons_zero, List.set_cons_succ], (set3_below HW _ _ _ _ _ hg), N34, N35, N45, D6, (fun _ => ⟨rfl, rfl⟩), D8, C0, C1, C2, (fun h => by obtain ⟨g', z', e, hg', hz', h1', h2'⟩ := C3 h; exact ⟨g', z', e, hg', (set3_other _ _ 0 _ _ _ _ (fun e3 => ((N34 h rfl).symm) (by rw [e, e3]))).trans hz', h1', h2'⟩), (fun _ => ⟨g, _, rfl, hg, set3_heap hz, (fun h => Bool.noConfusion h), fun _ => rfl⟩), (fun h => by obtain ⟨g', z', e, hg', hz', h1', h2'⟩ := C5 h; exact ⟨g', z', e, hg', (set3_other _ _ 0 _ _ _ _ (fun e3 => (N45 rfl h) (by rw [e, e3]))).trans hz', h1', h2'⟩)⟩
    · refine wpOp_shut rfl (fun K' hK => ?_)
      simp only [Act.put, List.getElem_toArray, List.getElem_cons_succ, List.getElem_cons_zero, List.setIfInBounds_toArray, List.set_cons_zero, List.set_cons_succ]
      obtain rfl := C2 rfl
      obtain ⟨g, z, rfl, hg, hz, h1, -⟩ := C5 rfl
      obtain rfl := h1 rfl
      obtain ⟨m0, m1, m2, f0, f1, f2⟩ := zero3 hz
      go_simp
      refine hK.out _ _ ⟨b0, b1, true, b3, b4, true, b6, b7, true, v10, v11, (.agg #[.int .u32 u0, .int .u8 u1, .int .u32 u2]), v7, v8, (.pointer (some ⟨g, 0, none⟩)), rfl, by simp only [Act.put, List.getElem_toArray, List.getElem_cons_succ, List.getElem_cons_zero, List.setIfInBounds_toArray, List.set_cons_zero, List.set_cons_succ], (set3_below HW _ _ _ _ _ hg), N34, N35, N45, D6, D7, (fun _ => ⟨rfl, rfl⟩), C0, C1, C2, (fun h => by obtain ⟨g', z', e, hg', hz', h1', h2'⟩ := C3 h; exact ⟨g', z', e, hg', (set3_other _ _ 0 _ _ _ _ (fun e3 => ((N35 h rfl).symm) (by rw [e, e3]))).trans hz', h1', h2'⟩), (fun h => by obtain ⟨g', z', e, hg', hz', h1', h2'⟩ := C4 h; exact ⟨g', z', e, hg', (set3_other _ _ 0 _ _ _ _ (fun e3 => ((N45 h rfl).symm) (by rw [e, e3]))).trans hz', h1', h2'⟩), (fun _ => ⟨g, _, rfl, hg, set3_heap hz, (fun h => Bool.noConfusion h), fun _ => rfl⟩)⟩
  case fin =>
    rintro L a w' ⟨b0, b1, b2, b3, b4, b5, b6, b7, b8, v10, v11, v12, v7, v8, v9, rfl, rfl, HW, N34, N35, N45, D6, D7, D8, C0, C1, C2, C3, C4, C5⟩ hr
    have hz : b0 = true ∧ b1 = true ∧ b2 = true ∧ b3 = true ∧ b4 = true ∧ b5 = true ∧ b6 = true ∧ b7 = true ∧ b8 = true := ready_end 9 (fun bs => match bs with | [b0, b1, b2, b3, b4, b5, b6, b7, b8] => b0 && b1 && b2 && b3 && b4 && b5 && b6 && b7 && b8 | _ => false) (by kernel_rfl) [b0, b1, b2, b3, b4, b5, b6, b7, b8] rfl hr |> fun h => (by simpa only [Bool.and_eq_true, and_assoc] using h)
    obtain ⟨rfl, rfl, rfl, rfl, rfl, rfl, rfl, rfl, rfl⟩ := hz
    clear hr
    simp only [Act.put, List.getElem_toArray, List.getElem_cons_succ, List.getElem_cons_zero, List.setIfInBounds_toArray, List.set_cons_zero, List.set_cons_succ]
    obtain rfl := C0 rfl
    obtain ⟨g0, z0, rfl, hg0, hG0, -, h0⟩ := C3 rfl
    have e0 := h0 rfl
    simp only [Value.agg.injEq] at e0
    subst e0
    obtain rfl := C1 rfl
    obtain ⟨g1, z1, rfl, hg1, hG1, -, h1⟩ := C4 rfl
    have e1 := h1 rfl
    simp only [Value.agg.injEq] at e1
    subst e1
    obtain rfl := C2 rfl
    obtain ⟨g2, z2, rfl, hg2, hG2, -, h2⟩ := C5 rfl
    have e2 := h2 rfl
    simp only [Value.agg.injEq] at e2
    subst e2
    clear C0 C1 C2 C3 C4 C5 D6 D7 D8 N34 N35 N45 h0 h1 h2
    obtain ⟨xd, hxd⟩ : ∃ x, x = w' := ⟨_, rfl⟩
    subst hxd
    have hsd := HW.size
    have hrs := (HW.block (w.heap.size) (by omega)).trans HBs.out
    have hrt := (HW.block (w.heap.size + 1) (by omega)).trans HBt.out
    have hl0 := zlt hG0
    have hl1 := zlt hG1
    have hl2 := zlt hG2
    have HWD := hid HW
    clear HW
    have d0 : xd.cell? ⟨g0, 0, none⟩ = some (.int .u32 s0) := (cell_of_row xd _ _ _ _ _ hG0).trans rfl
    have D0 : xd.drew.cell? ⟨g0, 0, none⟩ = some (.int .u32 s0) := d0
    have d1 : xd.cell? ⟨g0, 1, none⟩ = some (.int .u8 s1) := (cell_of_row xd _ _ _ _ _ hG0).trans rfl
    have D1 : xd.drew.cell? ⟨g0, 1, none⟩ = some (.int .u8 s1) := d1
    have d2 : xd.cell? ⟨g0, 2, none⟩ = some (.int .u32 s2) := (cell_of_row xd _ _ _ _ _ hG0).trans rfl
    have D2 : xd.drew.cell? ⟨g0, 2, none⟩ = some (.int .u32 s2) := d2
    have d3 : xd.cell? ⟨g1, 0, none⟩ = some (.int .u32 t0) := (cell_of_row xd _ _ _ _ _ hG1).trans rfl
    have D3 : xd.drew.cell? ⟨g1, 0, none⟩ = some (.int .u32 t0) := d3
    have d4 : xd.cell? ⟨g1, 1, none⟩ = some (.int .u8 t1) := (cell_of_row xd _ _ _ _ _ hG1).trans rfl
    have D4 : xd.drew.cell? ⟨g1, 1, none⟩ = some (.int .u8 t1) := d4
    have d5 : xd.cell? ⟨g1, 2, none⟩ = some (.int .u32 t2) := (cell_of_row xd _ _ _ _ _ hG1).trans rfl
    have D5 : xd.drew.cell? ⟨g1, 2, none⟩ = some (.int .u32 t2) := d5
    have d6 : xd.cell? ⟨g2, 0, none⟩ = some (.int .u32 u0) := (cell_of_row xd _ _ _ _ _ hG2).trans rfl
    have D6 : xd.drew.cell? ⟨g2, 0, none⟩ = some (.int .u32 u0) := d6
    have d7 : xd.cell? ⟨g2, 1, none⟩ = some (.int .u8 u1) := (cell_of_row xd _ _ _ _ _ hG2).trans rfl
    have D7 : xd.drew.cell? ⟨g2, 1, none⟩ = some (.int .u8 u1) := d7
    have d8 : xd.cell? ⟨g2, 2, none⟩ = some (.int .u32 u2) := (cell_of_row xd _ _ _ _ _ hG2).trans rfl
    have D8 : xd.drew.cell? ⟨g2, 2, none⟩ = some (.int .u32 u2) := d8
    have d9 : xd.cell? ⟨w.heap.size, 0, none⟩ = some (.int .u32 s0) := (cell_of_row xd _ _ _ _ _ hrs).trans rfl
    have D9 : xd.drew.cell? ⟨w.heap.size, 0, none⟩ = some (.int .u32 s0) := d9
    have d10 : xd.cell? ⟨w.heap.size, 1, none⟩ = some (.int .u8 s1) := (cell_of_row xd _ _ _ _ _ hrs).trans rfl
    have D10 : xd.drew.cell? ⟨w.heap.size, 1, none⟩ = some (.int .u8 s1) := d10
    have d11 : xd.cell? ⟨w.heap.size, 2, none⟩ = some (.int .u32 s2) := (cell_of_row xd _ _ _ _ _ hrs).trans rfl
    have D11 : xd.drew.cell? ⟨w.heap.size, 2, none⟩ = some (.int .u32 s2) := d11
    have d12 : xd.cell? ⟨w.heap.size + 1, 0, none⟩ = some (.int .u32 t0) := (cell_of_row xd _ _ _ _ _ hrt).trans rfl
    have D12 : xd.drew.cell? ⟨w.heap.size + 1, 0, none⟩ = some (.int .u32 t0) := d12
    have d13 : xd.cell? ⟨w.heap.size + 1, 1, none⟩ = some (.int .u8 t1) := (cell_of_row xd _ _ _ _ _ hrt).trans rfl
    have D13 : xd.drew.cell? ⟨w.heap.size + 1, 1, none⟩ = some (.int .u8 t1) := d13
    have d14 : xd.cell? ⟨w.heap.size + 1, 2, none⟩ = some (.int .u32 t2) := (cell_of_row xd _ _ _ _ _ hrt).trans rfl
    have D14 : xd.drew.cell? ⟨w.heap.size + 1, 2, none⟩ = some (.int .u32 t2) := d14
    go_wp2_with fail
    have HK1 := hid (fun w8 (hb : Below xd.heap.size xd w8) => awake11_any w8)
    go_region_held3 (fun w' => w'.cell? ⟨g0, 0, none⟩ = some (.int .u32 s0) ∧ w'.cell? ⟨g0, 1, none⟩ = some (.int .u8 s1) ∧ w'.cell? ⟨g0, 2, none⟩ = some (.int .u32 s2) ∧ w'.cell? ⟨g1, 0, none⟩ = some (.int .u32 t0) ∧ w'.cell? ⟨g1, 1, none⟩ = some (.int .u8 t1) ∧ w'.cell? ⟨g1, 2, none⟩ = some (.int .u32 t2) ∧ w'.cell? ⟨g2, 0, none⟩ = some (.int .u32 u0) ∧ w'.cell? ⟨g2, 1, none⟩ = some (.int .u8 u1) ∧ w'.cell? ⟨g2, 2, none⟩ = some (.int .u32 u2) ∧ w'.cell? ⟨w.heap.size, 0, none⟩ = some (.int .u32 s0) ∧ w'.cell? ⟨w.heap.size, 1, none⟩ = some (.int .u8 s1) ∧ w'.cell? ⟨w.heap.size, 2, none⟩ = some (.int .u32 s2) ∧ w'.cell? ⟨w.heap.size + 1, 0, none⟩ = some (.int .u32 t0) ∧ w'.cell? ⟨w.heap.size + 1, 1, none⟩ = some (.int .u8 t1) ∧ w'.cell? ⟨w.heap.size + 1, 2, none⟩ = some (.int .u32 t2))
      (first | (with_reducible refine ⟨?_, ?_, ?_, ?_, ?_, ?_, ?_, ?_, ?_, ?_, ?_, ?_, ?_, ?_, ?_⟩ <;> assumption) | fail)
      (first
        | (go_at_call 8; (with_reducible refine (HK1.out _ (Below.refl _ _).drew).mono ?_); rintro e y1 ⟨rfl, hb1⟩; have hp1 : Below xd.heap.size xd y1 := (Below.refl _ _).drew.trans hb1; have hz1 : xd.heap.size ≤ y1.heap.size := hp1.size; have hq1 : Below xd.heap.size xd y1 := hp1; have r10 := (hp1.cell (p := ⟨g0, 0, none⟩) (by show g0 < _; omega)).trans d0; have r11 := (hp1.cell (p := ⟨g0, 1, none⟩) (by show g0 < _; omega)).trans d1; have r12 := (hp1.cell (p := ⟨g0, 2, none⟩) (by show g0 < _; omega)).trans d2; have r13 := (hp1.cell (p := ⟨g1, 0, none⟩) (by show g1 < _; omega)).trans d3; have r14 := (hp1.cell (p := ⟨g1, 1, none⟩) (by show g1 < _; omega)).trans d4; have r15 := (hp1.cell (p := ⟨g1, 2, none⟩) (by show g1 < _; omega)).trans d5; have r16 := (hp1.cell (p := ⟨g2, 0, none⟩) (by show g2 < _; omega)).trans d6; have r17 := (hp1.cell (p := ⟨g2, 1, none⟩) (by show g2 < _; omega)).trans d7; have r18 := (hp1.cell (p := ⟨g2, 2, none⟩) (by show g2 < _; omega)).trans d8; have r19 := (hp1.cell (p := ⟨w.heap.size, 0, none⟩) (by show w.heap.size < _; omega)).trans d9; have r110 := (hp1.cell (p := ⟨w.heap.size, 1, none⟩) (by show w.heap.size < _; omega)).trans d10; have r111 := (hp1.cell (p := ⟨w.heap.size, 2, none⟩) (by show w.heap.size < _; omega)).trans d11; have r112 := (hp1.cell (p := ⟨w.heap.size + 1, 0, none⟩) (by show w.heap.size + 1 < _; omega)).trans d12; have r113 := (hp1.cell (p := ⟨w.heap.size + 1, 1, none⟩) (by show w.heap.size + 1 < _; omega)).trans d13; have r114 := (hp1.cell (p := ⟨w.heap.size + 1, 2, none⟩) (by show w.heap.size + 1 < _; omega)).trans d14; have HK2 := hid (fun w8 (hb : Below y1.heap.size y1 w8) => HFAB.out w8); clear hb1 hp1)
        | (go_at_call 19; (with_reducible refine (HK2.out _ (Below.refl _ _)).mono ?_); rintro e y2 ⟨rfl, hb2⟩; have hp2 : Below y1.heap.size y1 y2 := hb2; have hz2 : y1.heap.size ≤ y2.heap.size := hp2.size; have hq2 : Below xd.heap.size xd y2 := hq1.trans (hp2.mono (by omega)); have r20 := (hp2.cell (p := ⟨g0, 0, none⟩) (by show g0 < _; omega)).trans r10; have r21 := (hp2.cell (p := ⟨g0, 1, none⟩) (by show g0 < _; omega)).trans r11; have r22 := (hp2.cell (p := ⟨g0, 2, none⟩) (by show g0 < _; omega)).trans r12; have r23 := (hp2.cell (p := ⟨g1, 0, none⟩) (by show g1 < _; omega)).trans r13; have r24 := (hp2.cell (p := ⟨g1, 1, none⟩) (by show g1 < _; omega)).trans r14; have r25 := (hp2.cell (p := ⟨g1, 2, none⟩) (by show g1 < _; omega)).trans r15; have r26 := (hp2.cell (p := ⟨g2, 0, none⟩) (by show g2 < _; omega)).trans r16; have r27 := (hp2.cell (p := ⟨g2, 1, none⟩) (by show g2 < _; omega)).trans r17; have r28 := (hp2.cell (p := ⟨g2, 2, none⟩) (by show g2 < _; omega)).trans r18; have r29 := (hp2.cell (p := ⟨w.heap.size, 0, none⟩) (by show w.heap.size < _; omega)).trans r19; have r210 := (hp2.cell (p := ⟨w.heap.size, 1, none⟩) (by show w.heap.size < _; omega)).trans r110; have r211 := (hp2.cell (p := ⟨w.heap.size, 2, none⟩) (by show w.heap.size < _; omega)).trans r111; have r212 := (hp2.cell (p := ⟨w.heap.size + 1, 0, none⟩) (by show w.heap.size + 1 < _; omega)).trans r112; have r213 := (hp2.cell (p := ⟨w.heap.size + 1, 1, none⟩) (by show w.heap.size + 1 < _; omega)).trans r113; have r214 := (hp2.cell (p := ⟨w.heap.size + 1, 2, none⟩) (by show w.heap.size + 1 < _; omega)).trans r114; have HK3 := hid (fun w8 (hb : Below y2.heap.size y2 w8) => HRAB.out w8); clear hb2 hp2)
        | (go_at_call 20; (with_reducible refine (HK3.out _ (Below.refl _ _)).mono ?_); rintro e y3 ⟨rfl, hb3⟩; have hp3 : Below y2.heap.size y2 y3 := hb3; have hz3 : y2.heap.size ≤ y3.heap.size := hp3.size; have hq3 : Below xd.heap.size xd y3 := hq2.trans (hp3.mono (by omega)); have r30 := (hp3.cell (p := ⟨g0, 0, none⟩) (by show g0 < _; omega)).trans r20; have r31 := (hp3.cell (p := ⟨g0, 1, none⟩) (by show g0 < _; omega)).trans r21; have r32 := (hp3.cell (p := ⟨g0, 2, none⟩) (by show g0 < _; omega)).trans r22; have r33 := (hp3.cell (p := ⟨g1, 0, none⟩) (by show g1 < _; omega)).trans r23; have r34 := (hp3.cell (p := ⟨g1, 1, none⟩) (by show g1 < _; omega)).trans r24; have r35 := (hp3.cell (p := ⟨g1, 2, none⟩) (by show g1 < _; omega)).trans r25; have r36 := (hp3.cell (p := ⟨g2, 0, none⟩) (by show g2 < _; omega)).trans r26; have r37 := (hp3.cell (p := ⟨g2, 1, none⟩) (by show g2 < _; omega)).trans r27; have r38 := (hp3.cell (p := ⟨g2, 2, none⟩) (by show g2 < _; omega)).trans r28; have r39 := (hp3.cell (p := ⟨w.heap.size, 0, none⟩) (by show w.heap.size < _; omega)).trans r29; have r310 := (hp3.cell (p := ⟨w.heap.size, 1, none⟩) (by show w.heap.size < _; omega)).trans r210; have r311 := (hp3.cell (p := ⟨w.heap.size, 2, none⟩) (by show w.heap.size < _; omega)).trans r211; have r312 := (hp3.cell (p := ⟨w.heap.size + 1, 0, none⟩) (by show w.heap.size + 1 < _; omega)).trans r212; have r313 := (hp3.cell (p := ⟨w.heap.size + 1, 1, none⟩) (by show w.heap.size + 1 < _; omega)).trans r213; have r314 := (hp3.cell (p := ⟨w.heap.size + 1, 2, none⟩) (by show w.heap.size + 1 < _; omega)).trans r214; have HK4 := hid (fun w8 (hb : Below y3.heap.size y3 w8) => HFAA.out w8); clear hb3 hp3)
        | (go_at_call 19; (with_reducible refine (HK4.out _ (Below.refl _ _)).mono ?_); rintro e y4 ⟨rfl, hb4⟩; have hp4 : Below y3.heap.size y3 y4 := hb4; have hz4 : y3.heap.size ≤ y4.heap.size := hp4.size; have hq4 : Below xd.heap.size xd y4 := hq3.trans (hp4.mono (by omega)); have r40 := (hp4.cell (p := ⟨g0, 0, none⟩) (by show g0 < _; omega)).trans r30; have r41 := (hp4.cell (p := ⟨g0, 1, none⟩) (by show g0 < _; omega)).trans r31; have r42 := (hp4.cell (p := ⟨g0, 2, none⟩) (by show g0 < _; omega)).trans r32; have r43 := (hp4.cell (p := ⟨g1, 0, none⟩) (by show g1 < _; omega)).trans r33; have r44 := (hp4.cell (p := ⟨g1, 1, none⟩) (by show g1 < _; omega)).trans r34; have r45 := (hp4.cell (p := ⟨g1, 2, none⟩) (by show g1 < _; omega)).trans r35; have r46 := (hp4.cell (p := ⟨g2, 0, none⟩) (by show g2 < _; omega)).trans r36; have r47 := (hp4.cell (p := ⟨g2, 1, none⟩) (by show g2 < _; omega)).trans r37; have r48 := (hp4.cell (p := ⟨g2, 2, none⟩) (by show g2 < _; omega)).trans r38; have r49 := (hp4.cell (p := ⟨w.heap.size, 0, none⟩) (by show w.heap.size < _; omega)).trans r39; have r410 := (hp4.cell (p := ⟨w.heap.size, 1, none⟩) (by show w.heap.size < _; omega)).trans r310; have r411 := (hp4.cell (p := ⟨w.heap.size, 2, none⟩) (by show w.heap.size < _; omega)).trans r311; have r412 := (hp4.cell (p := ⟨w.heap.size + 1, 0, none⟩) (by show w.heap.size + 1 < _; omega)).trans r312; have r413 := (hp4.cell (p := ⟨w.heap.size + 1, 1, none⟩) (by show w.heap.size + 1 < _; omega)).trans r313; have r414 := (hp4.cell (p := ⟨w.heap.size + 1, 2, none⟩) (by show w.heap.size + 1 < _; omega)).trans r314; clear hb4 hp4)
        | fail)
    have HQxd := hid hq4
    obtain ⟨xe, hxe⟩ : ∃ x, x = y4 := ⟨_, rfl⟩
    subst hxe
    have hG0xe := (HQxd.out.block g0 (by omega)).trans hG0
    have hG1xe := (HQxd.out.block g1 (by omega)).trans hG1
    have hG2xe := (HQxd.out.block g2 (by omega)).trans hG2
    have hrsxe := (HQxd.out.block (w.heap.size) (by omega)).trans hrs
    have hrtxe := (HQxd.out.block (w.heap.size + 1) (by omega)).trans hrt
    have hsxe := HQxd.out.size
    clear d0 D0 d1 D1 d2 D2 d3 D3 d4 D4 d5 D5 d6 D6 d7 D7 d8 D8 d9 D9 d10 D10 d11 D11 d12 D12 d13 D13 d14 D14 hq1 hq2 hq3 hq4
    go_wp2_with fail
    by_cases hab : (s0, s1, s2) = (t0, t1, t2)
    · simp only [Prod.mk.injEq] at hab
      obtain ⟨rfl, rfl, rfl⟩ := hab
      go_quiet (fail)
      obtain ⟨xf, hxf⟩ : ∃ x, x = xe.drewN nq := ⟨_, rfl⟩
      rw [← hxf]
      have hqf : Below xe.heap.size xe xf := by rw [hxf]; exact ⟨rfl, rfl, rfl, Nat.le_refl _, fun _ _ => rfl⟩
      have HQxe := hid hqf
      clear hxf hqf
      have hG0xf := (HQxe.out.block g0 (by omega)).trans hG0xe
      have hG1xf := (HQxe.out.block g1 (by omega)).trans hG1xe
      have hG2xf := (HQxe.out.block g2 (by omega)).trans hG2xe
      have hsf := HQxe.out.size
      have q00xf : xf.cell? ⟨g0, 0, none⟩ = some (.int .u32 s0) := (cell_of_row xf _ _ _ _ _ hG0xf).trans rfl
      have q01xf : xf.cell? ⟨g0, 1, none⟩ = some (.int .u8 s1) := (cell_of_row xf _ _ _ _ _ hG0xf).trans rfl
      have q02xf : xf.cell? ⟨g0, 2, none⟩ = some (.int .u32 s2) := (cell_of_row xf _ _ _ _ _ hG0xf).trans rfl
      have q10xf : xf.cell? ⟨g1, 0, none⟩ = some (.int .u32 s0) := (cell_of_row xf _ _ _ _ _ hG1xf).trans rfl
      have q11xf : xf.cell? ⟨g1, 1, none⟩ = some (.int .u8 s1) := (cell_of_row xf _ _ _ _ _ hG1xf).trans rfl
      have q12xf : xf.cell? ⟨g1, 2, none⟩ = some (.int .u32 s2) := (cell_of_row xf _ _ _ _ _ hG1xf).trans rfl
      have HBF := hid (HBX.out.trans (((HWD.out.trans (HQxd.out.mono hsd)).trans (HQxe.out.mono (Nat.le_trans hsd hsxe))).mono (by omega)))
      have hszf : w.heap.size ≤ xf.heap.size := HBF.out.size
      cases RAB
      · go_wp2_with (first | (go_at_call 19; (with_reducible refine (HFAB.out xf).mono ?_); rintro e z1 ⟨rfl, hb1⟩; have hsz1 := hb1.size; have hG0z1 := (hb1.block g0 (by omega)).trans hG0xf; have hG1z1 := (hb1.block g1 (by omega)).trans hG1xf; have hG2z1 := (hb1.block g2 (by omega)).trans hG2xf; have q10z1 : z1.cell? ⟨g1, 0, none⟩ = some (.int .u32 s0) := (cell_of_row z1 _ _ _ _ _ hG1z1).trans rfl; have q11z1 : z1.cell? ⟨g1, 1, none⟩ = some (.int .u8 s1) := (cell_of_row z1 _ _ _ _ _ hG1z1).trans rfl; have q12z1 : z1.cell? ⟨g1, 2, none⟩ = some (.int .u32 s2) := (cell_of_row z1 _ _ _ _ _ hG1z1).trans rfl; have q20z1 : z1.cell? ⟨g2, 0, none⟩ = some (.int .u32 u0) := (cell_of_row z1 _ _ _ _ _ hG2z1).trans rfl; have q21z1 : z1.cell? ⟨g2, 1, none⟩ = some (.int .u8 u1) := (cell_of_row z1 _ _ _ _ _ hG2z1).trans rfl; have q22z1 : z1.cell? ⟨g2, 2, none⟩ = some (.int .u32 u2) := (cell_of_row z1 _ _ _ _ _ hG2z1).trans rfl; have HZ1 := hid hb1; clear hb1) | fail)
        go_ret
        exact ⟨rfl, HBF.out.trans (HZ1.out.mono (by omega))⟩
      · cases RBC
        · go_wp2_with (first | (go_at_call 19; (with_reducible refine (HFAB.out xf).mono ?_); rintro e z1 ⟨rfl, hb1⟩; have hsz1 := hb1.size; have hG0z1 := (hb1.block g0 (by omega)).trans hG0xf; have hG1z1 := (hb1.block g1 (by omega)).trans hG1xf; have hG2z1 := (hb1.block g2 (by omega)).trans hG2xf; have q10z1 : z1.cell? ⟨g1, 0, none⟩ = some (.int .u32 s0) := (cell_of_row z1 _ _ _ _ _ hG1z1).trans rfl; have q11z1 : z1.cell? ⟨g1, 1, none⟩ = some (.int .u8 s1) := (cell_of_row z1 _ _ _ _ _ hG1z1).trans rfl; have q12z1 : z1.cell? ⟨g1, 2, none⟩ = some (.int .u32 s2) := (cell_of_row z1 _ _ _ _ _ hG1z1).trans rfl; have q20z1 : z1.cell? ⟨g2, 0, none⟩ = some (.int .u32 u0) := (cell_of_row z1 _ _ _ _ _ hG2z1).trans rfl; have q21z1 : z1.cell? ⟨g2, 1, none⟩ = some (.int .u8 u1) := (cell_of_row z1 _ _ _ _ _ hG2z1).trans rfl; have q22z1 : z1.cell? ⟨g2, 2, none⟩ = some (.int .u32 u2) := (cell_of_row z1 _ _ _ _ _ hG2z1).trans rfl; have HZ1 := hid hb1; clear hb1) | (go_at_call 19; (with_reducible refine (HFBC.out z1).mono ?_); rintro e z2 ⟨rfl, hb2⟩; have hsz2 := hb2.size; have hG0z2 := (hb2.block g0 (by omega)).trans hG0z1; have hG1z2 := (hb2.block g1 (by omega)).trans hG1z1; have hG2z2 := (hb2.block g2 (by omega)).trans hG2z1; have q00z2 : z2.cell? ⟨g0, 0, none⟩ = some (.int .u32 s0) := (cell_of_row z2 _ _ _ _ _ hG0z2).trans rfl; have q01z2 : z2.cell? ⟨g0, 1, none⟩ = some (.int .u8 s1) := (cell_of_row z2 _ _ _ _ _ hG0z2).trans rfl; have q02z2 : z2.cell? ⟨g0, 2, none⟩ = some (.int .u32 s2) := (cell_of_row z2 _ _ _ _ _ hG0z2).trans rfl; have q20z2 : z2.cell? ⟨g2, 0, none⟩ = some (.int .u32 u0) := (cell_of_row z2 _ _ _ _ _ hG2z2).trans rfl; have q21z2 : z2.cell? ⟨g2, 1, none⟩ = some (.int .u8 u1) := (cell_of_row z2 _ _ _ _ _ hG2z2).trans rfl; have q22z2 : z2.cell? ⟨g2, 2, none⟩ = some (.int .u32 u2) := (cell_of_row z2 _ _ _ _ _ hG2z2).trans rfl; have HZ2 := hid hb2; clear hb2) | fail)
          go_ret
          exact ⟨rfl, (HBF.out.trans (HZ1.out.mono (by omega))).trans (HZ2.out.mono (by omega))⟩
        · have e9 := HTR.out rfl rfl
          subst e9
          go_wp2_with (first | (go_at_call 19; (with_reducible refine (HFAB.out xf).mono ?_); rintro e z1 ⟨rfl, hb1⟩; have hsz1 := hb1.size; have hG0z1 := (hb1.block g0 (by omega)).trans hG0xf; have hG1z1 := (hb1.block g1 (by omega)).trans hG1xf; have hG2z1 := (hb1.block g2 (by omega)).trans hG2xf; have q10z1 : z1.cell? ⟨g1, 0, none⟩ = some (.int .u32 s0) := (cell_of_row z1 _ _ _ _ _ hG1z1).trans rfl; have q11z1 : z1.cell? ⟨g1, 1, none⟩ = some (.int .u8 s1) := (cell_of_row z1 _ _ _ _ _ hG1z1).trans rfl; have q12z1 : z1.cell? ⟨g1, 2, none⟩ = some (.int .u32 s2) := (cell_of_row z1 _ _ _ _ _ hG1z1).trans rfl; have q20z1 : z1.cell? ⟨g2, 0, none⟩ = some (.int .u32 u0) := (cell_of_row z1 _ _ _ _ _ hG2z1).trans rfl; have q21z1 : z1.cell? ⟨g2, 1, none⟩ = some (.int .u8 u1) := (cell_of_row z1 _ _ _ _ _ hG2z1).trans rfl; have q22z1 : z1.cell? ⟨g2, 2, none⟩ = some (.int .u32 u2) := (cell_of_row z1 _ _ _ _ _ hG2z1).trans rfl; have HZ1 := hid hb1; clear hb1) | (go_at_call 19; (with_reducible refine (HFBC.out z1).mono ?_); rintro e z2 ⟨rfl, hb2⟩; have hsz2 := hb2.size; have hG0z2 := (hb2.block g0 (by omega)).trans hG0z1; have hG1z2 := (hb2.block g1 (by omega)).trans hG1z1; have hG2z2 := (hb2.block g2 (by omega)).trans hG2z1; have q00z2 : z2.cell? ⟨g0, 0, none⟩ = some (.int .u32 s0) := (cell_of_row z2 _ _ _ _ _ hG0z2).trans rfl; have q01z2 : z2.cell? ⟨g0, 1, none⟩ = some (.int .u8 s1) := (cell_of_row z2 _ _ _ _ _ hG0z2).trans rfl; have q02z2 : z2.cell? ⟨g0, 2, none⟩ = some (.int .u32 s2) := (cell_of_row z2 _ _ _ _ _ hG0z2).trans rfl; have q20z2 : z2.cell? ⟨g2, 0, none⟩ = some (.int .u32 u0) := (cell_of_row z2 _ _ _ _ _ hG2z2).trans rfl; have q21z2 : z2.cell? ⟨g2, 1, none⟩ = some (.int .u8 u1) := (cell_of_row z2 _ _ _ _ _ hG2z2).trans rfl; have q22z2 : z2.cell? ⟨g2, 2, none⟩ = some (.int .u32 u2) := (cell_of_row z2 _ _ _ _ _ hG2z2).trans rfl; have HZ2 := hid hb2; clear hb2) | (go_at_call 19; (with_reducible refine (HFAC.out z2).mono ?_); rintro e z3 ⟨rfl, hb3⟩; have hsz3 := hb3.size; have hG0z3 := (hb3.block g0 (by omega)).trans hG0z2; have hG1z3 := (hb3.block g1 (by omega)).trans hG1z2; have hG2z3 := (hb3.block g2 (by omega)).trans hG2z2; have HZ3 := hid hb3; clear hb3) | fail)
          go_ret
          exact ⟨rfl, ((HBF.out.trans (HZ1.out.mono (by omega))).trans (HZ2.out.mono (by omega))).trans (HZ3.out.mono (by omega))⟩
    · have hto := HTO.out hab
      by_cases h0 : s0 = t0
      · have h0b : (s0 == t0) = true := by simpa using h0
        have h0c : (s0 != t0) = false := by simpa using h0
        have h0d : decide (s0 = t0) = true := decide_eq_true h0
        by_cases h1 : s1 = t1
        · have h1b : (s1 == t1) = true := by simpa using h1
          have h1c : (s1 != t1) = false := by simpa using h1
          have h2 : s2 ≠ t2 := fun h => hab (by rw [h, h0, h1])
          have h2b : (s2 == t2) = false := by simpa using h2
          have h2c : (s2 != t2) = true := by simpa using h2
          clear hab h0 h1 h2
          have d0 : xe.cell? ⟨g0, 0, none⟩ = some (.int .u32 s0) := (cell_of_row xe _ _ _ _ _ hG0xe).trans rfl
          have D0 : xe.drew.cell? ⟨g0, 0, none⟩ = some (.int .u32 s0) := d0
          have d1 : xe.cell? ⟨g0, 1, none⟩ = some (.int .u8 s1) := (cell_of_row xe _ _ _ _ _ hG0xe).trans rfl
          have D1 : xe.drew.cell? ⟨g0, 1, none⟩ = some (.int .u8 s1) := d1
          have d2 : xe.cell? ⟨g0, 2, none⟩ = some (.int .u32 s2) := (cell_of_row xe _ _ _ _ _ hG0xe).trans rfl
          have D2 : xe.drew.cell? ⟨g0, 2, none⟩ = some (.int .u32 s2) := d2
          have d3 : xe.cell? ⟨g1, 0, none⟩ = some (.int .u32 t0) := (cell_of_row xe _ _ _ _ _ hG1xe).trans rfl
          have D3 : xe.drew.cell? ⟨g1, 0, none⟩ = some (.int .u32 t0) := d3
          have d4 : xe.cell? ⟨g1, 1, none⟩ = some (.int .u8 t1) := (cell_of_row xe _ _ _ _ _ hG1xe).trans rfl
          have D4 : xe.drew.cell? ⟨g1, 1, none⟩ = some (.int .u8 t1) := d4
          have d5 : xe.cell? ⟨g1, 2, none⟩ = some (.int .u32 t2) := (cell_of_row xe _ _ _ _ _ hG1xe).trans rfl
          have D5 : xe.drew.cell? ⟨g1, 2, none⟩ = some (.int .u32 t2) := d5
          have d6 : xe.cell? ⟨w.heap.size, 0, none⟩ = some (.int .u32 s0) := (cell_of_row xe _ _ _ _ _ hrsxe).trans rfl
          have D6 : xe.drew.cell? ⟨w.heap.size, 0, none⟩ = some (.int .u32 s0) := d6
          have d7 : xe.cell? ⟨w.heap.size, 1, none⟩ = some (.int .u8 s1) := (cell_of_row xe _ _ _ _ _ hrsxe).trans rfl
          have D7 : xe.drew.cell? ⟨w.heap.size, 1, none⟩ = some (.int .u8 s1) := d7
          have d8 : xe.cell? ⟨w.heap.size, 2, none⟩ = some (.int .u32 s2) := (cell_of_row xe _ _ _ _ _ hrsxe).trans rfl
          have D8 : xe.drew.cell? ⟨w.heap.size, 2, none⟩ = some (.int .u32 s2) := d8
          have d9 : xe.cell? ⟨w.heap.size + 1, 0, none⟩ = some (.int .u32 t0) := (cell_of_row xe _ _ _ _ _ hrtxe).trans rfl
          have D9 : xe.drew.cell? ⟨w.heap.size + 1, 0, none⟩ = some (.int .u32 t0) := d9
          have d10 : xe.cell? ⟨w.heap.size + 1, 1, none⟩ = some (.int .u8 t1) := (cell_of_row xe _ _ _ _ _ hrtxe).trans rfl
          have D10 : xe.drew.cell? ⟨w.heap.size + 1, 1, none⟩ = some (.int .u8 t1) := d10
          have d11 : xe.cell? ⟨w.heap.size + 1, 2, none⟩ = some (.int .u32 t2) := (cell_of_row xe _ _ _ _ _ hrtxe).trans rfl
          have D11 : xe.drew.cell? ⟨w.heap.size + 1, 2, none⟩ = some (.int .u32 t2) := d11
          go_wp2_with fail
          have HK1 := hid (fun w8 (hb : Below xe.heap.size xe w8) => HFAB.out w8)
          go_region_held3 (fun w' => w'.cell? ⟨g0, 0, none⟩ = some (.int .u32 s0) ∧ w'.cell? ⟨g0, 1, none⟩ = some (.int .u8 s1) ∧ w'.cell? ⟨g0, 2, none⟩ = some (.int .u32 s2) ∧ w'.cell? ⟨g1, 0, none⟩ = some (.int .u32 t0) ∧ w'.cell? ⟨g1, 1, none⟩ = some (.int .u8 t1) ∧ w'.cell? ⟨g1, 2, none⟩ = some (.int .u32 t2) ∧ w'.cell? ⟨w.heap.size, 0, none⟩ = some (.int .u32 s0) ∧ w'.cell? ⟨w.heap.size, 1, none⟩ = some (.int .u8 s1) ∧ w'.cell? ⟨w.heap.size, 2, none⟩ = some (.int .u32 s2) ∧ w'.cell? ⟨w.heap.size + 1, 0, none⟩ = some (.int .u32 t0) ∧ w'.cell? ⟨w.heap.size + 1, 1, none⟩ = some (.int .u8 t1) ∧ w'.cell? ⟨w.heap.size + 1, 2, none⟩ = some (.int .u32 t2))
            (first | (with_reducible refine ⟨?_, ?_, ?_, ?_, ?_, ?_, ?_, ?_, ?_, ?_, ?_, ?_⟩ <;> assumption) | fail)
            (first
              | (go_at_call 19; (with_reducible refine (HK1.out _ (Below.refl _ _).drew).mono ?_); rintro e y1 ⟨rfl, hb1⟩; have hp1 : Below xe.heap.size xe y1 := (Below.refl _ _).drew.trans hb1; have hz1 : xe.heap.size ≤ y1.heap.size := hp1.size; have hq1 : Below xe.heap.size xe y1 := hp1; have r10 := (hp1.cell (p := ⟨g0, 0, none⟩) (by show g0 < _; omega)).trans d0; have r11 := (hp1.cell (p := ⟨g0, 1, none⟩) (by show g0 < _; omega)).trans d1; have r12 := (hp1.cell (p := ⟨g0, 2, none⟩) (by show g0 < _; omega)).trans d2; have r13 := (hp1.cell (p := ⟨g1, 0, none⟩) (by show g1 < _; omega)).trans d3; have r14 := (hp1.cell (p := ⟨g1, 1, none⟩) (by show g1 < _; omega)).trans d4; have r15 := (hp1.cell (p := ⟨g1, 2, none⟩) (by show g1 < _; omega)).trans d5; have r16 := (hp1.cell (p := ⟨w.heap.size, 0, none⟩) (by show w.heap.size < _; omega)).trans d6; have r17 := (hp1.cell (p := ⟨w.heap.size, 1, none⟩) (by show w.heap.size < _; omega)).trans d7; have r18 := (hp1.cell (p := ⟨w.heap.size, 2, none⟩) (by show w.heap.size < _; omega)).trans d8; have r19 := (hp1.cell (p := ⟨w.heap.size + 1, 0, none⟩) (by show w.heap.size + 1 < _; omega)).trans d9; have r110 := (hp1.cell (p := ⟨w.heap.size + 1, 1, none⟩) (by show w.heap.size + 1 < _; omega)).trans d10; have r111 := (hp1.cell (p := ⟨w.heap.size + 1, 2, none⟩) (by show w.heap.size + 1 < _; omega)).trans d11; have HK2 := hid (fun w8 (hb : Below y1.heap.size y1 w8) => HFBA.out w8); clear hb1 hp1)
              | (go_at_call 19; (with_reducible refine (HK2.out _ (Below.refl _ _)).mono ?_); rintro e y2 ⟨rfl, hb2⟩; have hp2 : Below y1.heap.size y1 y2 := hb2; have hz2 : y1.heap.size ≤ y2.heap.size := hp2.size; have hq2 : Below xe.heap.size xe y2 := hq1.trans (hp2.mono (by omega)); have r20 := (hp2.cell (p := ⟨g0, 0, none⟩) (by show g0 < _; omega)).trans r10; have r21 := (hp2.cell (p := ⟨g0, 1, none⟩) (by show g0 < _; omega)).trans r11; have r22 := (hp2.cell (p := ⟨g0, 2, none⟩) (by show g0 < _; omega)).trans r12; have r23 := (hp2.cell (p := ⟨g1, 0, none⟩) (by show g1 < _; omega)).trans r13; have r24 := (hp2.cell (p := ⟨g1, 1, none⟩) (by show g1 < _; omega)).trans r14; have r25 := (hp2.cell (p := ⟨g1, 2, none⟩) (by show g1 < _; omega)).trans r15; have r26 := (hp2.cell (p := ⟨w.heap.size, 0, none⟩) (by show w.heap.size < _; omega)).trans r16; have r27 := (hp2.cell (p := ⟨w.heap.size, 1, none⟩) (by show w.heap.size < _; omega)).trans r17; have r28 := (hp2.cell (p := ⟨w.heap.size, 2, none⟩) (by show w.heap.size < _; omega)).trans r18; have r29 := (hp2.cell (p := ⟨w.heap.size + 1, 0, none⟩) (by show w.heap.size + 1 < _; omega)).trans r19; have r210 := (hp2.cell (p := ⟨w.heap.size + 1, 1, none⟩) (by show w.heap.size + 1 < _; omega)).trans r110; have r211 := (hp2.cell (p := ⟨w.heap.size + 1, 2, none⟩) (by show w.heap.size + 1 < _; omega)).trans r111; clear hb2 hp2)
              | fail)
          have HQxe := hid hq2
          obtain ⟨xf, hxf⟩ : ∃ x, x = y2 := ⟨_, rfl⟩
          subst hxf
          have hG0xf := (HQxe.out.block g0 (by omega)).trans hG0xe
          have hG1xf := (HQxe.out.block g1 (by omega)).trans hG1xe
          have hG2xf := (HQxe.out.block g2 (by omega)).trans hG2xe
          have hsf := HQxe.out.size
          have q00xf : xf.cell? ⟨g0, 0, none⟩ = some (.int .u32 s0) := (cell_of_row xf _ _ _ _ _ hG0xf).trans rfl
          have q01xf : xf.cell? ⟨g0, 1, none⟩ = some (.int .u8 s1) := (cell_of_row xf _ _ _ _ _ hG0xf).trans rfl
          have q02xf : xf.cell? ⟨g0, 2, none⟩ = some (.int .u32 s2) := (cell_of_row xf _ _ _ _ _ hG0xf).trans rfl
          have q10xf : xf.cell? ⟨g1, 0, none⟩ = some (.int .u32 t0) := (cell_of_row xf _ _ _ _ _ hG1xf).trans rfl
          have q11xf : xf.cell? ⟨g1, 1, none⟩ = some (.int .u8 t1) := (cell_of_row xf _ _ _ _ _ hG1xf).trans rfl
          have q12xf : xf.cell? ⟨g1, 2, none⟩ = some (.int .u32 t2) := (cell_of_row xf _ _ _ _ _ hG1xf).trans rfl
          have HBF := hid (HBX.out.trans (((HWD.out.trans (HQxd.out.mono hsd)).trans (HQxe.out.mono (Nat.le_trans hsd hsxe))).mono (by omega)))
          have hszf : w.heap.size ≤ xf.heap.size := HBF.out.size
          cases RAB
          · go_wp2_with (first | (go_at_call 19; (with_reducible refine (HFAB.out xf).mono ?_); rintro e z1 ⟨rfl, hb1⟩; have hsz1 := hb1.size; have hG0z1 := (hb1.block g0 (by omega)).trans hG0xf; have hG1z1 := (hb1.block g1 (by omega)).trans hG1xf; have hG2z1 := (hb1.block g2 (by omega)).trans hG2xf; have q10z1 : z1.cell? ⟨g1, 0, none⟩ = some (.int .u32 t0) := (cell_of_row z1 _ _ _ _ _ hG1z1).trans rfl; have q11z1 : z1.cell? ⟨g1, 1, none⟩ = some (.int .u8 t1) := (cell_of_row z1 _ _ _ _ _ hG1z1).trans rfl; have q12z1 : z1.cell? ⟨g1, 2, none⟩ = some (.int .u32 t2) := (cell_of_row z1 _ _ _ _ _ hG1z1).trans rfl; have q20z1 : z1.cell? ⟨g2, 0, none⟩ = some (.int .u32 u0) := (cell_of_row z1 _ _ _ _ _ hG2z1).trans rfl; have q21z1 : z1.cell? ⟨g2, 1, none⟩ = some (.int .u8 u1) := (cell_of_row z1 _ _ _ _ _ hG2z1).trans rfl; have q22z1 : z1.cell? ⟨g2, 2, none⟩ = some (.int .u32 u2) := (cell_of_row z1 _ _ _ _ _ hG2z1).trans rfl; have HZ1 := hid hb1; clear hb1) | fail)
            go_ret
            exact ⟨rfl, HBF.out.trans (HZ1.out.mono (by omega))⟩
          · cases RBC
            · go_wp2_with (first | (go_at_call 19; (with_reducible refine (HFAB.out xf).mono ?_); rintro e z1 ⟨rfl, hb1⟩; have hsz1 := hb1.size; have hG0z1 := (hb1.block g0 (by omega)).trans hG0xf; have hG1z1 := (hb1.block g1 (by omega)).trans hG1xf; have hG2z1 := (hb1.block g2 (by omega)).trans hG2xf; have q10z1 : z1.cell? ⟨g1, 0, none⟩ = some (.int .u32 t0) := (cell_of_row z1 _ _ _ _ _ hG1z1).trans rfl; have q11z1 : z1.cell? ⟨g1, 1, none⟩ = some (.int .u8 t1) := (cell_of_row z1 _ _ _ _ _ hG1z1).trans rfl; have q12z1 : z1.cell? ⟨g1, 2, none⟩ = some (.int .u32 t2) := (cell_of_row z1 _ _ _ _ _ hG1z1).trans rfl; have q20z1 : z1.cell? ⟨g2, 0, none⟩ = some (.int .u32 u0) := (cell_of_row z1 _ _ _ _ _ hG2z1).trans rfl; have q21z1 : z1.cell? ⟨g2, 1, none⟩ = some (.int .u8 u1) := (cell_of_row z1 _ _ _ _ _ hG2z1).trans rfl; have q22z1 : z1.cell? ⟨g2, 2, none⟩ = some (.int .u32 u2) := (cell_of_row z1 _ _ _ _ _ hG2z1).trans rfl; have HZ1 := hid hb1; clear hb1) | (go_at_call 19; (with_reducible refine (HFBC.out z1).mono ?_); rintro e z2 ⟨rfl, hb2⟩; have hsz2 := hb2.size; have hG0z2 := (hb2.block g0 (by omega)).trans hG0z1; have hG1z2 := (hb2.block g1 (by omega)).trans hG1z1; have hG2z2 := (hb2.block g2 (by omega)).trans hG2z1; have q00z2 : z2.cell? ⟨g0, 0, none⟩ = some (.int .u32 s0) := (cell_of_row z2 _ _ _ _ _ hG0z2).trans rfl; have q01z2 : z2.cell? ⟨g0, 1, none⟩ = some (.int .u8 s1) := (cell_of_row z2 _ _ _ _ _ hG0z2).trans rfl; have q02z2 : z2.cell? ⟨g0, 2, none⟩ = some (.int .u32 s2) := (cell_of_row z2 _ _ _ _ _ hG0z2).trans rfl; have q20z2 : z2.cell? ⟨g2, 0, none⟩ = some (.int .u32 u0) := (cell_of_row z2 _ _ _ _ _ hG2z2).trans rfl; have q21z2 : z2.cell? ⟨g2, 1, none⟩ = some (.int .u8 u1) := (cell_of_row z2 _ _ _ _ _ hG2z2).trans rfl; have q22z2 : z2.cell? ⟨g2, 2, none⟩ = some (.int .u32 u2) := (cell_of_row z2 _ _ _ _ _ hG2z2).trans rfl; have HZ2 := hid hb2; clear hb2) | fail)
              go_ret
              exact ⟨rfl, (HBF.out.trans (HZ1.out.mono (by omega))).trans (HZ2.out.mono (by omega))⟩
            · have e9 := HTR.out rfl rfl
              subst e9
              go_wp2_with (first | (go_at_call 19; (with_reducible refine (HFAB.out xf).mono ?_); rintro e z1 ⟨rfl, hb1⟩; have hsz1 := hb1.size; have hG0z1 := (hb1.block g0 (by omega)).trans hG0xf; have hG1z1 := (hb1.block g1 (by omega)).trans hG1xf; have hG2z1 := (hb1.block g2 (by omega)).trans hG2xf; have q10z1 : z1.cell? ⟨g1, 0, none⟩ = some (.int .u32 t0) := (cell_of_row z1 _ _ _ _ _ hG1z1).trans rfl; have q11z1 : z1.cell? ⟨g1, 1, none⟩ = some (.int .u8 t1) := (cell_of_row z1 _ _ _ _ _ hG1z1).trans rfl; have q12z1 : z1.cell? ⟨g1, 2, none⟩ = some (.int .u32 t2) := (cell_of_row z1 _ _ _ _ _ hG1z1).trans rfl; have q20z1 : z1.cell? ⟨g2, 0, none⟩ = some (.int .u32 u0) := (cell_of_row z1 _ _ _ _ _ hG2z1).trans rfl; have q21z1 : z1.cell? ⟨g2, 1, none⟩ = some (.int .u8 u1) := (cell_of_row z1 _ _ _ _ _ hG2z1).trans rfl; have q22z1 : z1.cell? ⟨g2, 2, none⟩ = some (.int .u32 u2) := (cell_of_row z1 _ _ _ _ _ hG2z1).trans rfl; have HZ1 := hid hb1; clear hb1) | (go_at_call 19; (with_reducible refine (HFBC.out z1).mono ?_); rintro e z2 ⟨rfl, hb2⟩; have hsz2 := hb2.size; have hG0z2 := (hb2.block g0 (by omega)).trans hG0z1; have hG1z2 := (hb2.block g1 (by omega)).trans hG1z1; have hG2z2 := (hb2.block g2 (by omega)).trans hG2z1; have q00z2 : z2.cell? ⟨g0, 0, none⟩ = some (.int .u32 s0) := (cell_of_row z2 _ _ _ _ _ hG0z2).trans rfl; have q01z2 : z2.cell? ⟨g0, 1, none⟩ = some (.int .u8 s1) := (cell_of_row z2 _ _ _ _ _ hG0z2).trans rfl; have q02z2 : z2.cell? ⟨g0, 2, none⟩ = some (.int .u32 s2) := (cell_of_row z2 _ _ _ _ _ hG0z2).trans rfl; have q20z2 : z2.cell? ⟨g2, 0, none⟩ = some (.int .u32 u0) := (cell_of_row z2 _ _ _ _ _ hG2z2).trans rfl; have q21z2 : z2.cell? ⟨g2, 1, none⟩ = some (.int .u8 u1) := (cell_of_row z2 _ _ _ _ _ hG2z2).trans rfl; have q22z2 : z2.cell? ⟨g2, 2, none⟩ = some (.int .u32 u2) := (cell_of_row z2 _ _ _ _ _ hG2z2).trans rfl; have HZ2 := hid hb2; clear hb2) | (go_at_call 19; (with_reducible refine (HFAC.out z2).mono ?_); rintro e z3 ⟨rfl, hb3⟩; have hsz3 := hb3.size; have hG0z3 := (hb3.block g0 (by omega)).trans hG0z2; have hG1z3 := (hb3.block g1 (by omega)).trans hG1z2; have hG2z3 := (hb3.block g2 (by omega)).trans hG2z2; have HZ3 := hid hb3; clear hb3) | fail)
              go_ret
              exact ⟨rfl, ((HBF.out.trans (HZ1.out.mono (by omega))).trans (HZ2.out.mono (by omega))).trans (HZ3.out.mono (by omega))⟩
        · have h1b : (s1 == t1) = false := by simpa using h1
          have h1c : (s1 != t1) = true := by simpa using h1
          clear hab h0 h1
          have d0 : xe.cell? ⟨g0, 0, none⟩ = some (.int .u32 s0) := (cell_of_row xe _ _ _ _ _ hG0xe).trans rfl
          have D0 : xe.drew.cell? ⟨g0, 0, none⟩ = some (.int .u32 s0) := d0
          have d1 : xe.cell? ⟨g0, 1, none⟩ = some (.int .u8 s1) := (cell_of_row xe _ _ _ _ _ hG0xe).trans rfl
          have D1 : xe.drew.cell? ⟨g0, 1, none⟩ = some (.int .u8 s1) := d1
          have d2 : xe.cell? ⟨g0, 2, none⟩ = some (.int .u32 s2) := (cell_of_row xe _ _ _ _ _ hG0xe).trans rfl
          have D2 : xe.drew.cell? ⟨g0, 2, none⟩ = some (.int .u32 s2) := d2
          have d3 : xe.cell? ⟨g1, 0, none⟩ = some (.int .u32 t0) := (cell_of_row xe _ _ _ _ _ hG1xe).trans rfl
          have D3 : xe.drew.cell? ⟨g1, 0, none⟩ = some (.int .u32 t0) := d3
          have d4 : xe.cell? ⟨g1, 1, none⟩ = some (.int .u8 t1) := (cell_of_row xe _ _ _ _ _ hG1xe).trans rfl
          have D4 : xe.drew.cell? ⟨g1, 1, none⟩ = some (.int .u8 t1) := d4
          have d5 : xe.cell? ⟨g1, 2, none⟩ = some (.int .u32 t2) := (cell_of_row xe _ _ _ _ _ hG1xe).trans rfl
          have D5 : xe.drew.cell? ⟨g1, 2, none⟩ = some (.int .u32 t2) := d5
          have d6 : xe.cell? ⟨w.heap.size, 0, none⟩ = some (.int .u32 s0) := (cell_of_row xe _ _ _ _ _ hrsxe).trans rfl
          have D6 : xe.drew.cell? ⟨w.heap.size, 0, none⟩ = some (.int .u32 s0) := d6
          have d7 : xe.cell? ⟨w.heap.size, 1, none⟩ = some (.int .u8 s1) := (cell_of_row xe _ _ _ _ _ hrsxe).trans rfl
          have D7 : xe.drew.cell? ⟨w.heap.size, 1, none⟩ = some (.int .u8 s1) := d7
          have d8 : xe.cell? ⟨w.heap.size, 2, none⟩ = some (.int .u32 s2) := (cell_of_row xe _ _ _ _ _ hrsxe).trans rfl
          have D8 : xe.drew.cell? ⟨w.heap.size, 2, none⟩ = some (.int .u32 s2) := d8
          have d9 : xe.cell? ⟨w.heap.size + 1, 0, none⟩ = some (.int .u32 t0) := (cell_of_row xe _ _ _ _ _ hrtxe).trans rfl
          have D9 : xe.drew.cell? ⟨w.heap.size + 1, 0, none⟩ = some (.int .u32 t0) := d9
          have d10 : xe.cell? ⟨w.heap.size + 1, 1, none⟩ = some (.int .u8 t1) := (cell_of_row xe _ _ _ _ _ hrtxe).trans rfl
          have D10 : xe.drew.cell? ⟨w.heap.size + 1, 1, none⟩ = some (.int .u8 t1) := d10
          have d11 : xe.cell? ⟨w.heap.size + 1, 2, none⟩ = some (.int .u32 t2) := (cell_of_row xe _ _ _ _ _ hrtxe).trans rfl
          have D11 : xe.drew.cell? ⟨w.heap.size + 1, 2, none⟩ = some (.int .u32 t2) := d11
          go_wp2_with fail
          have HK1 := hid (fun w8 (hb : Below xe.heap.size xe w8) => HFAB.out w8)
          go_region_held3 (fun w' => w'.cell? ⟨g0, 0, none⟩ = some (.int .u32 s0) ∧ w'.cell? ⟨g0, 1, none⟩ = some (.int .u8 s1) ∧ w'.cell? ⟨g0, 2, none⟩ = some (.int .u32 s2) ∧ w'.cell? ⟨g1, 0, none⟩ = some (.int .u32 t0) ∧ w'.cell? ⟨g1, 1, none⟩ = some (.int .u8 t1) ∧ w'.cell? ⟨g1, 2, none⟩ = some (.int .u32 t2) ∧ w'.cell? ⟨w.heap.size, 0, none⟩ = some (.int .u32 s0) ∧ w'.cell? ⟨w.heap.size, 1, none⟩ = some (.int .u8 s1) ∧ w'.cell? ⟨w.heap.size, 2, none⟩ = some (.int .u32 s2) ∧ w'.cell? ⟨w.heap.size + 1, 0, none⟩ = some (.int .u32 t0) ∧ w'.cell? ⟨w.heap.size + 1, 1, none⟩ = some (.int .u8 t1) ∧ w'.cell? ⟨w.heap.size + 1, 2, none⟩ = some (.int .u32 t2))
            (first | (with_reducible refine ⟨?_, ?_, ?_, ?_, ?_, ?_, ?_, ?_, ?_, ?_, ?_, ?_⟩ <;> assumption) | fail)
            (first
              | (go_at_call 19; (with_reducible refine (HK1.out _ (Below.refl _ _).drew).mono ?_); rintro e y1 ⟨rfl, hb1⟩; have hp1 : Below xe.heap.size xe y1 := (Below.refl _ _).drew.trans hb1; have hz1 : xe.heap.size ≤ y1.heap.size := hp1.size; have hq1 : Below xe.heap.size xe y1 := hp1; have r10 := (hp1.cell (p := ⟨g0, 0, none⟩) (by show g0 < _; omega)).trans d0; have r11 := (hp1.cell (p := ⟨g0, 1, none⟩) (by show g0 < _; omega)).trans d1; have r12 := (hp1.cell (p := ⟨g0, 2, none⟩) (by show g0 < _; omega)).trans d2; have r13 := (hp1.cell (p := ⟨g1, 0, none⟩) (by show g1 < _; omega)).trans d3; have r14 := (hp1.cell (p := ⟨g1, 1, none⟩) (by show g1 < _; omega)).trans d4; have r15 := (hp1.cell (p := ⟨g1, 2, none⟩) (by show g1 < _; omega)).trans d5; have r16 := (hp1.cell (p := ⟨w.heap.size, 0, none⟩) (by show w.heap.size < _; omega)).trans d6; have r17 := (hp1.cell (p := ⟨w.heap.size, 1, none⟩) (by show w.heap.size < _; omega)).trans d7; have r18 := (hp1.cell (p := ⟨w.heap.size, 2, none⟩) (by show w.heap.size < _; omega)).trans d8; have r19 := (hp1.cell (p := ⟨w.heap.size + 1, 0, none⟩) (by show w.heap.size + 1 < _; omega)).trans d9; have r110 := (hp1.cell (p := ⟨w.heap.size + 1, 1, none⟩) (by show w.heap.size + 1 < _; omega)).trans d10; have r111 := (hp1.cell (p := ⟨w.heap.size + 1, 2, none⟩) (by show w.heap.size + 1 < _; omega)).trans d11; have HK2 := hid (fun w8 (hb : Below y1.heap.size y1 w8) => HFBA.out w8); clear hb1 hp1)
              | (go_at_call 19; (with_reducible refine (HK2.out _ (Below.refl _ _)).mono ?_); rintro e y2 ⟨rfl, hb2⟩; have hp2 : Below y1.heap.size y1 y2 := hb2; have hz2 : y1.heap.size ≤ y2.heap.size := hp2.size; have hq2 : Below xe.heap.size xe y2 := hq1.trans (hp2.mono (by omega)); have r20 := (hp2.cell (p := ⟨g0, 0, none⟩) (by show g0 < _; omega)).trans r10; have r21 := (hp2.cell (p := ⟨g0, 1, none⟩) (by show g0 < _; omega)).trans r11; have r22 := (hp2.cell (p := ⟨g0, 2, none⟩) (by show g0 < _; omega)).trans r12; have r23 := (hp2.cell (p := ⟨g1, 0, none⟩) (by show g1 < _; omega)).trans r13; have r24 := (hp2.cell (p := ⟨g1, 1, none⟩) (by show g1 < _; omega)).trans r14; have r25 := (hp2.cell (p := ⟨g1, 2, none⟩) (by show g1 < _; omega)).trans r15; have r26 := (hp2.cell (p := ⟨w.heap.size, 0, none⟩) (by show w.heap.size < _; omega)).trans r16; have r27 := (hp2.cell (p := ⟨w.heap.size, 1, none⟩) (by show w.heap.size < _; omega)).trans r17; have r28 := (hp2.cell (p := ⟨w.heap.size, 2, none⟩) (by show w.heap.size < _; omega)).trans r18; have r29 := (hp2.cell (p := ⟨w.heap.size + 1, 0, none⟩) (by show w.heap.size + 1 < _; omega)).trans r19; have r210 := (hp2.cell (p := ⟨w.heap.size + 1, 1, none⟩) (by show w.heap.size + 1 < _; omega)).trans r110; have r211 := (hp2.cell (p := ⟨w.heap.size + 1, 2, none⟩) (by show w.heap.size + 1 < _; omega)).trans r111; clear hb2 hp2)
              | fail)
          have HQxe := hid hq2
          obtain ⟨xf, hxf⟩ : ∃ x, x = y2 := ⟨_, rfl⟩
          subst hxf
          have hG0xf := (HQxe.out.block g0 (by omega)).trans hG0xe
          have hG1xf := (HQxe.out.block g1 (by omega)).trans hG1xe
          have hG2xf := (HQxe.out.block g2 (by omega)).trans hG2xe
          have hsf := HQxe.out.size
          have q00xf : xf.cell? ⟨g0, 0, none⟩ = some (.int .u32 s0) := (cell_of_row xf _ _ _ _ _ hG0xf).trans rfl
          have q01xf : xf.cell? ⟨g0, 1, none⟩ = some (.int .u8 s1) := (cell_of_row xf _ _ _ _ _ hG0xf).trans rfl
          have q02xf : xf.cell? ⟨g0, 2, none⟩ = some (.int .u32 s2) := (cell_of_row xf _ _ _ _ _ hG0xf).trans rfl
          have q10xf : xf.cell? ⟨g1, 0, none⟩ = some (.int .u32 t0) := (cell_of_row xf _ _ _ _ _ hG1xf).trans rfl
          have q11xf : xf.cell? ⟨g1, 1, none⟩ = some (.int .u8 t1) := (cell_of_row xf _ _ _ _ _ hG1xf).trans rfl
          have q12xf : xf.cell? ⟨g1, 2, none⟩ = some (.int .u32 t2) := (cell_of_row xf _ _ _ _ _ hG1xf).trans rfl
          have HBF := hid (HBX.out.trans (((HWD.out.trans (HQxd.out.mono hsd)).trans (HQxe.out.mono (Nat.le_trans hsd hsxe))).mono (by omega)))
          have hszf : w.heap.size ≤ xf.heap.size := HBF.out.size
          cases RAB
          · go_wp2_with (first | (go_at_call 19; (with_reducible refine (HFAB.out xf).mono ?_); rintro e z1 ⟨rfl, hb1⟩; have hsz1 := hb1.size; have hG0z1 := (hb1.block g0 (by omega)).trans hG0xf; have hG1z1 := (hb1.block g1 (by omega)).trans hG1xf; have hG2z1 := (hb1.block g2 (by omega)).trans hG2xf; have q10z1 : z1.cell? ⟨g1, 0, none⟩ = some (.int .u32 t0) := (cell_of_row z1 _ _ _ _ _ hG1z1).trans rfl; have q11z1 : z1.cell? ⟨g1, 1, none⟩ = some (.int .u8 t1) := (cell_of_row z1 _ _ _ _ _ hG1z1).trans rfl; have q12z1 : z1.cell? ⟨g1, 2, none⟩ = some (.int .u32 t2) := (cell_of_row z1 _ _ _ _ _ hG1z1).trans rfl; have q20z1 : z1.cell? ⟨g2, 0, none⟩ = some (.int .u32 u0) := (cell_of_row z1 _ _ _ _ _ hG2z1).trans rfl; have q21z1 : z1.cell? ⟨g2, 1, none⟩ = some (.int .u8 u1) := (cell_of_row z1 _ _ _ _ _ hG2z1).trans rfl; have q22z1 : z1.cell? ⟨g2, 2, none⟩ = some (.int .u32 u2) := (cell_of_row z1 _ _ _ _ _ hG2z1).trans rfl; have HZ1 := hid hb1; clear hb1) | fail)
            go_ret
            exact ⟨rfl, HBF.out.trans (HZ1.out.mono (by omega))⟩
          · cases RBC
            · go_wp2_with (first | (go_at_call 19; (with_reducible refine (HFAB.out xf).mono ?_); rintro e z1 ⟨rfl, hb1⟩; have hsz1 := hb1.size; have hG0z1 := (hb1.block g0 (by omega)).trans hG0xf; have hG1z1 := (hb1.block g1 (by omega)).trans hG1xf; have hG2z1 := (hb1.block g2 (by omega)).trans hG2xf; have q10z1 : z1.cell? ⟨g1, 0, none⟩ = some (.int .u32 t0) := (cell_of_row z1 _ _ _ _ _ hG1z1).trans rfl; have q11z1 : z1.cell? ⟨g1, 1, none⟩ = some (.int .u8 t1) := (cell_of_row z1 _ _ _ _ _ hG1z1).trans rfl; have q12z1 : z1.cell? ⟨g1, 2, none⟩ = some (.int .u32 t2) := (cell_of_row z1 _ _ _ _ _ hG1z1).trans rfl; have q20z1 : z1.cell? ⟨g2, 0, none⟩ = some (.int .u32 u0) := (cell_of_row z1 _ _ _ _ _ hG2z1).trans rfl; have q21z1 : z1.cell? ⟨g2, 1, none⟩ = some (.int .u8 u1) := (cell_of_row z1 _ _ _ _ _ hG2z1).trans rfl; have q22z1 : z1.cell? ⟨g2, 2, none⟩ = some (.int .u32 u2) := (cell_of_row z1 _ _ _ _ _ hG2z1).trans rfl; have HZ1 := hid hb1; clear hb1) | (go_at_call 19; (with_reducible refine (HFBC.out z1).mono ?_); rintro e z2 ⟨rfl, hb2⟩; have hsz2 := hb2.size; have hG0z2 := (hb2.block g0 (by omega)).trans hG0z1; have hG1z2 := (hb2.block g1 (by omega)).trans hG1z1; have hG2z2 := (hb2.block g2 (by omega)).trans hG2z1; have q00z2 : z2.cell? ⟨g0, 0, none⟩ = some (.int .u32 s0) := (cell_of_row z2 _ _ _ _ _ hG0z2).trans rfl; have q01z2 : z2.cell? ⟨g0, 1, none⟩ = some (.int .u8 s1) := (cell_of_row z2 _ _ _ _ _ hG0z2).trans rfl; have q02z2 : z2.cell? ⟨g0, 2, none⟩ = some (.int .u32 s2) := (cell_of_row z2 _ _ _ _ _ hG0z2).trans rfl; have q20z2 : z2.cell? ⟨g2, 0, none⟩ = some (.int .u32 u0) := (cell_of_row z2 _ _ _ _ _ hG2z2).trans rfl; have q21z2 : z2.cell? ⟨g2, 1, none⟩ = some (.int .u8 u1) := (cell_of_row z2 _ _ _ _ _ hG2z2).trans rfl; have q22z2 : z2.cell? ⟨g2, 2, none⟩ = some (.int .u32 u2) := (cell_of_row z2 _ _ _ _ _ hG2z2).trans rfl; have HZ2 := hid hb2; clear hb2) | fail)
              go_ret
              exact ⟨rfl, (HBF.out.trans (HZ1.out.mono (by omega))).trans (HZ2.out.mono (by omega))⟩
            · have e9 := HTR.out rfl rfl
              subst e9
              go_wp2_with (first | (go_at_call 19; (with_reducible refine (HFAB.out xf).mono ?_); rintro e z1 ⟨rfl, hb1⟩; have hsz1 := hb1.size; have hG0z1 := (hb1.block g0 (by omega)).trans hG0xf; have hG1z1 := (hb1.block g1 (by omega)).trans hG1xf; have hG2z1 := (hb1.block g2 (by omega)).trans hG2xf; have q10z1 : z1.cell? ⟨g1, 0, none⟩ = some (.int .u32 t0) := (cell_of_row z1 _ _ _ _ _ hG1z1).trans rfl; have q11z1 : z1.cell? ⟨g1, 1, none⟩ = some (.int .u8 t1) := (cell_of_row z1 _ _ _ _ _ hG1z1).trans rfl; have q12z1 : z1.cell? ⟨g1, 2, none⟩ = some (.int .u32 t2) := (cell_of_row z1 _ _ _ _ _ hG1z1).trans rfl; have q20z1 : z1.cell? ⟨g2, 0, none⟩ = some (.int .u32 u0) := (cell_of_row z1 _ _ _ _ _ hG2z1).trans rfl; have q21z1 : z1.cell? ⟨g2, 1, none⟩ = some (.int .u8 u1) := (cell_of_row z1 _ _ _ _ _ hG2z1).trans rfl; have q22z1 : z1.cell? ⟨g2, 2, none⟩ = some (.int .u32 u2) := (cell_of_row z1 _ _ _ _ _ hG2z1).trans rfl; have HZ1 := hid hb1; clear hb1) | (go_at_call 19; (with_reducible refine (HFBC.out z1).mono ?_); rintro e z2 ⟨rfl, hb2⟩; have hsz2 := hb2.size; have hG0z2 := (hb2.block g0 (by omega)).trans hG0z1; have hG1z2 := (hb2.block g1 (by omega)).trans hG1z1; have hG2z2 := (hb2.block g2 (by omega)).trans hG2z1; have q00z2 : z2.cell? ⟨g0, 0, none⟩ = some (.int .u32 s0) := (cell_of_row z2 _ _ _ _ _ hG0z2).trans rfl; have q01z2 : z2.cell? ⟨g0, 1, none⟩ = some (.int .u8 s1) := (cell_of_row z2 _ _ _ _ _ hG0z2).trans rfl; have q02z2 : z2.cell? ⟨g0, 2, none⟩ = some (.int .u32 s2) := (cell_of_row z2 _ _ _ _ _ hG0z2).trans rfl; have q20z2 : z2.cell? ⟨g2, 0, none⟩ = some (.int .u32 u0) := (cell_of_row z2 _ _ _ _ _ hG2z2).trans rfl; have q21z2 : z2.cell? ⟨g2, 1, none⟩ = some (.int .u8 u1) := (cell_of_row z2 _ _ _ _ _ hG2z2).trans rfl; have q22z2 : z2.cell? ⟨g2, 2, none⟩ = some (.int .u32 u2) := (cell_of_row z2 _ _ _ _ _ hG2z2).trans rfl; have HZ2 := hid hb2; clear hb2) | (go_at_call 19; (with_reducible refine (HFAC.out z2).mono ?_); rintro e z3 ⟨rfl, hb3⟩; have hsz3 := hb3.size; have hG0z3 := (hb3.block g0 (by omega)).trans hG0z2; have hG1z3 := (hb3.block g1 (by omega)).trans hG1z2; have hG2z3 := (hb3.block g2 (by omega)).trans hG2z2; have HZ3 := hid hb3; clear hb3) | fail)
              go_ret
              exact ⟨rfl, ((HBF.out.trans (HZ1.out.mono (by omega))).trans (HZ2.out.mono (by omega))).trans (HZ3.out.mono (by omega))⟩
      · have h0b : (s0 == t0) = false := by simpa using h0
        have h0c : (s0 != t0) = true := by simpa using h0
        clear hab h0
        have d0 : xe.cell? ⟨g0, 0, none⟩ = some (.int .u32 s0) := (cell_of_row xe _ _ _ _ _ hG0xe).trans rfl
        have D0 : xe.drew.cell? ⟨g0, 0, none⟩ = some (.int .u32 s0) := d0
        have d1 : xe.cell? ⟨g0, 1, none⟩ = some (.int .u8 s1) := (cell_of_row xe _ _ _ _ _ hG0xe).trans rfl
        have D1 : xe.drew.cell? ⟨g0, 1, none⟩ = some (.int .u8 s1) := d1
        have d2 : xe.cell? ⟨g0, 2, none⟩ = some (.int .u32 s2) := (cell_of_row xe _ _ _ _ _ hG0xe).trans rfl
        have D2 : xe.drew.cell? ⟨g0, 2, none⟩ = some (.int .u32 s2) := d2
        have d3 : xe.cell? ⟨g1, 0, none⟩ = some (.int .u32 t0) := (cell_of_row xe _ _ _ _ _ hG1xe).trans rfl
        have D3 : xe.drew.cell? ⟨g1, 0, none⟩ = some (.int .u32 t0) := d3
        have d4 : xe.cell? ⟨g1, 1, none⟩ = some (.int .u8 t1) := (cell_of_row xe _ _ _ _ _ hG1xe).trans rfl
        have D4 : xe.drew.cell? ⟨g1, 1, none⟩ = some (.int .u8 t1) := d4
        have d5 : xe.cell? ⟨g1, 2, none⟩ = some (.int .u32 t2) := (cell_of_row xe _ _ _ _ _ hG1xe).trans rfl
        have D5 : xe.drew.cell? ⟨g1, 2, none⟩ = some (.int .u32 t2) := d5
        have d6 : xe.cell? ⟨w.heap.size, 0, none⟩ = some (.int .u32 s0) := (cell_of_row xe _ _ _ _ _ hrsxe).trans rfl
        have D6 : xe.drew.cell? ⟨w.heap.size, 0, none⟩ = some (.int .u32 s0) := d6
        have d7 : xe.cell? ⟨w.heap.size, 1, none⟩ = some (.int .u8 s1) := (cell_of_row xe _ _ _ _ _ hrsxe).trans rfl
        have D7 : xe.drew.cell? ⟨w.heap.size, 1, none⟩ = some (.int .u8 s1) := d7
        have d8 : xe.cell? ⟨w.heap.size, 2, none⟩ = some (.int .u32 s2) := (cell_of_row xe _ _ _ _ _ hrsxe).trans rfl
        have D8 : xe.drew.cell? ⟨w.heap.size, 2, none⟩ = some (.int .u32 s2) := d8
        have d9 : xe.cell? ⟨w.heap.size + 1, 0, none⟩ = some (.int .u32 t0) := (cell_of_row xe _ _ _ _ _ hrtxe).trans rfl
        have D9 : xe.drew.cell? ⟨w.heap.size + 1, 0, none⟩ = some (.int .u32 t0) := d9
        have d10 : xe.cell? ⟨w.heap.size + 1, 1, none⟩ = some (.int .u8 t1) := (cell_of_row xe _ _ _ _ _ hrtxe).trans rfl
        have D10 : xe.drew.cell? ⟨w.heap.size + 1, 1, none⟩ = some (.int .u8 t1) := d10
        have d11 : xe.cell? ⟨w.heap.size + 1, 2, none⟩ = some (.int .u32 t2) := (cell_of_row xe _ _ _ _ _ hrtxe).trans rfl
        have D11 : xe.drew.cell? ⟨w.heap.size + 1, 2, none⟩ = some (.int .u32 t2) := d11
        go_wp2_with fail
        have HK1 := hid (fun w8 (hb : Below xe.heap.size xe w8) => HFAB.out w8)
        go_region_held3 (fun w' => w'.cell? ⟨g0, 0, none⟩ = some (.int .u32 s0) ∧ w'.cell? ⟨g0, 1, none⟩ = some (.int .u8 s1) ∧ w'.cell? ⟨g0, 2, none⟩ = some (.int .u32 s2) ∧ w'.cell? ⟨g1, 0, none⟩ = some (.int .u32 t0) ∧ w'.cell? ⟨g1, 1, none⟩ = some (.int .u8 t1) ∧ w'.cell? ⟨g1, 2, none⟩ = some (.int .u32 t2) ∧ w'.cell? ⟨w.heap.size, 0, none⟩ = some (.int .u32 s0) ∧ w'.cell? ⟨w.heap.size, 1, none⟩ = some (.int .u8 s1) ∧ w'.cell? ⟨w.heap.size, 2, none⟩ = some (.int .u32 s2) ∧ w'.cell? ⟨w.heap.size + 1, 0, none⟩ = some (.int .u32 t0) ∧ w'.cell? ⟨w.heap.size + 1, 1, none⟩ = some (.int .u8 t1) ∧ w'.cell? ⟨w.heap.size + 1, 2, none⟩ = some (.int .u32 t2))
          (first | (with_reducible refine ⟨?_, ?_, ?_, ?_, ?_, ?_, ?_, ?_, ?_, ?_, ?_, ?_⟩ <;> assumption) | fail)
          (first
            | (go_at_call 19; (with_reducible refine (HK1.out _ (Below.refl _ _).drew).mono ?_); rintro e y1 ⟨rfl, hb1⟩; have hp1 : Below xe.heap.size xe y1 := (Below.refl _ _).drew.trans hb1; have hz1 : xe.heap.size ≤ y1.heap.size := hp1.size; have hq1 : Below xe.heap.size xe y1 := hp1; have r10 := (hp1.cell (p := ⟨g0, 0, none⟩) (by show g0 < _; omega)).trans d0; have r11 := (hp1.cell (p := ⟨g0, 1, none⟩) (by show g0 < _; omega)).trans d1; have r12 := (hp1.cell (p := ⟨g0, 2, none⟩) (by show g0 < _; omega)).trans d2; have r13 := (hp1.cell (p := ⟨g1, 0, none⟩) (by show g1 < _; omega)).trans d3; have r14 := (hp1.cell (p := ⟨g1, 1, none⟩) (by show g1 < _; omega)).trans d4; have r15 := (hp1.cell (p := ⟨g1, 2, none⟩) (by show g1 < _; omega)).trans d5; have r16 := (hp1.cell (p := ⟨w.heap.size, 0, none⟩) (by show w.heap.size < _; omega)).trans d6; have r17 := (hp1.cell (p := ⟨w.heap.size, 1, none⟩) (by show w.heap.size < _; omega)).trans d7; have r18 := (hp1.cell (p := ⟨w.heap.size, 2, none⟩) (by show w.heap.size < _; omega)).trans d8; have r19 := (hp1.cell (p := ⟨w.heap.size + 1, 0, none⟩) (by show w.heap.size + 1 < _; omega)).trans d9; have r110 := (hp1.cell (p := ⟨w.heap.size + 1, 1, none⟩) (by show w.heap.size + 1 < _; omega)).trans d10; have r111 := (hp1.cell (p := ⟨w.heap.size + 1, 2, none⟩) (by show w.heap.size + 1 < _; omega)).trans d11; have HK2 := hid (fun w8 (hb : Below y1.heap.size y1 w8) => HFBA.out w8); clear hb1 hp1)
            | (go_at_call 19; (with_reducible refine (HK2.out _ (Below.refl _ _)).mono ?_); rintro e y2 ⟨rfl, hb2⟩; have hp2 : Below y1.heap.size y1 y2 := hb2; have hz2 : y1.heap.size ≤ y2.heap.size := hp2.size; have hq2 : Below xe.heap.size xe y2 := hq1.trans (hp2.mono (by omega)); have r20 := (hp2.cell (p := ⟨g0, 0, none⟩) (by show g0 < _; omega)).trans r10; have r21 := (hp2.cell (p := ⟨g0, 1, none⟩) (by show g0 < _; omega)).trans r11; have r22 := (hp2.cell (p := ⟨g0, 2, none⟩) (by show g0 < _; omega)).trans r12; have r23 := (hp2.cell (p := ⟨g1, 0, none⟩) (by show g1 < _; omega)).trans r13; have r24 := (hp2.cell (p := ⟨g1, 1, none⟩) (by show g1 < _; omega)).trans r14; have r25 := (hp2.cell (p := ⟨g1, 2, none⟩) (by show g1 < _; omega)).trans r15; have r26 := (hp2.cell (p := ⟨w.heap.size, 0, none⟩) (by show w.heap.size < _; omega)).trans r16; have r27 := (hp2.cell (p := ⟨w.heap.size, 1, none⟩) (by show w.heap.size < _; omega)).trans r17; have r28 := (hp2.cell (p := ⟨w.heap.size, 2, none⟩) (by show w.heap.size < _; omega)).trans r18; have r29 := (hp2.cell (p := ⟨w.heap.size + 1, 0, none⟩) (by show w.heap.size + 1 < _; omega)).trans r19; have r210 := (hp2.cell (p := ⟨w.heap.size + 1, 1, none⟩) (by show w.heap.size + 1 < _; omega)).trans r110; have r211 := (hp2.cell (p := ⟨w.heap.size + 1, 2, none⟩) (by show w.heap.size + 1 < _; omega)).trans r111; clear hb2 hp2)
            | fail)
        have HQxe := hid hq2
        obtain ⟨xf, hxf⟩ : ∃ x, x = y2 := ⟨_, rfl⟩
        subst hxf
        have hG0xf := (HQxe.out.block g0 (by omega)).trans hG0xe
        have hG1xf := (HQxe.out.block g1 (by omega)).trans hG1xe
        have hG2xf := (HQxe.out.block g2 (by omega)).trans hG2xe
        have hsf := HQxe.out.size
        have q00xf : xf.cell? ⟨g0, 0, none⟩ = some (.int .u32 s0) := (cell_of_row xf _ _ _ _ _ hG0xf).trans rfl
        have q01xf : xf.cell? ⟨g0, 1, none⟩ = some (.int .u8 s1) := (cell_of_row xf _ _ _ _ _ hG0xf).trans rfl
        have q02xf : xf.cell? ⟨g0, 2, none⟩ = some (.int .u32 s2) := (cell_of_row xf _ _ _ _ _ hG0xf).trans rfl
        have q10xf : xf.cell? ⟨g1, 0, none⟩ = some (.int .u32 t0) := (cell_of_row xf _ _ _ _ _ hG1xf).trans rfl
        have q11xf : xf.cell? ⟨g1, 1, none⟩ = some (.int .u8 t1) := (cell_of_row xf _ _ _ _ _ hG1xf).trans rfl
        have q12xf : xf.cell? ⟨g1, 2, none⟩ = some (.int .u32 t2) := (cell_of_row xf _ _ _ _ _ hG1xf).trans rfl
        have HBF := hid (HBX.out.trans (((HWD.out.trans (HQxd.out.mono hsd)).trans (HQxe.out.mono (Nat.le_trans hsd hsxe))).mono (by omega)))
        have hszf : w.heap.size ≤ xf.heap.size := HBF.out.size
        cases RAB
        · go_wp2_with (first | (go_at_call 19; (with_reducible refine (HFAB.out xf).mono ?_); rintro e z1 ⟨rfl, hb1⟩; have hsz1 := hb1.size; have hG0z1 := (hb1.block g0 (by omega)).trans hG0xf; have hG1z1 := (hb1.block g1 (by omega)).trans hG1xf; have hG2z1 := (hb1.block g2 (by omega)).trans hG2xf; have q10z1 : z1.cell? ⟨g1, 0, none⟩ = some (.int .u32 t0) := (cell_of_row z1 _ _ _ _ _ hG1z1).trans rfl; have q11z1 : z1.cell? ⟨g1, 1, none⟩ = some (.int .u8 t1) := (cell_of_row z1 _ _ _ _ _ hG1z1).trans rfl; have q12z1 : z1.cell? ⟨g1, 2, none⟩ = some (.int .u32 t2) := (cell_of_row z1 _ _ _ _ _ hG1z1).trans rfl; have q20z1 : z1.cell? ⟨g2, 0, none⟩ = some (.int .u32 u0) := (cell_of_row z1 _ _ _ _ _ hG2z1).trans rfl; have q21z1 : z1.cell? ⟨g2, 1, none⟩ = some (.int .u8 u1) := (cell_of_row z1 _ _ _ _ _ hG2z1).trans rfl; have q22z1 : z1.cell? ⟨g2, 2, none⟩ = some (.int .u32 u2) := (cell_of_row z1 _ _ _ _ _ hG2z1).trans rfl; have HZ1 := hid hb1; clear hb1) | fail)
          go_ret
          exact ⟨rfl, HBF.out.trans (HZ1.out.mono (by omega))⟩
        · cases RBC
          · go_wp2_with (first | (go_at_call 19; (with_reducible refine (HFAB.out xf).mono ?_); rintro e z1 ⟨rfl, hb1⟩; have hsz1 := hb1.size; have hG0z1 := (hb1.block g0 (by omega)).trans hG0xf; have hG1z1 := (hb1.block g1 (by omega)).trans hG1xf; have hG2z1 := (hb1.block g2 (by omega)).trans hG2xf; have q10z1 : z1.cell? ⟨g1, 0, none⟩ = some (.int .u32 t0) := (cell_of_row z1 _ _ _ _ _ hG1z1).trans rfl; have q11z1 : z1.cell? ⟨g1, 1, none⟩ = some (.int .u8 t1) := (cell_of_row z1 _ _ _ _ _ hG1z1).trans rfl; have q12z1 : z1.cell? ⟨g1, 2, none⟩ = some (.int .u32 t2) := (cell_of_row z1 _ _ _ _ _ hG1z1).trans rfl; have q20z1 : z1.cell? ⟨g2, 0, none⟩ = some (.int .u32 u0) := (cell_of_row z1 _ _ _ _ _ hG2z1).trans rfl; have q21z1 : z1.cell? ⟨g2, 1, none⟩ = some (.int .u8 u1) := (cell_of_row z1 _ _ _ _ _ hG2z1).trans rfl; have q22z1 : z1.cell? ⟨g2, 2, none⟩ = some (.int .u32 u2) := (cell_of_row z1 _ _ _ _ _ hG2z1).trans rfl; have HZ1 := hid hb1; clear hb1) | (go_at_call 19; (with_reducible refine (HFBC.out z1).mono ?_); rintro e z2 ⟨rfl, hb2⟩; have hsz2 := hb2.size; have hG0z2 := (hb2.block g0 (by omega)).trans hG0z1; have hG1z2 := (hb2.block g1 (by omega)).trans hG1z1; have hG2z2 := (hb2.block g2 (by omega)).trans hG2z1; have q00z2 : z2.cell? ⟨g0, 0, none⟩ = some (.int .u32 s0) := (cell_of_row z2 _ _ _ _ _ hG0z2).trans rfl; have q01z2 : z2.cell? ⟨g0, 1, none⟩ = some (.int .u8 s1) := (cell_of_row z2 _ _ _ _ _ hG0z2).trans rfl; have q02z2 : z2.cell? ⟨g0, 2, none⟩ = some (.int .u32 s2) := (cell_of_row z2 _ _ _ _ _ hG0z2).trans rfl; have q20z2 : z2.cell? ⟨g2, 0, none⟩ = some (.int .u32 u0) := (cell_of_row z2 _ _ _ _ _ hG2z2).trans rfl; have q21z2 : z2.cell? ⟨g2, 1, none⟩ = some (.int .u8 u1) := (cell_of_row z2 _ _ _ _ _ hG2z2).trans rfl; have q22z2 : z2.cell? ⟨g2, 2, none⟩ = some (.int .u32 u2) := (cell_of_row z2 _ _ _ _ _ hG2z2).trans rfl; have HZ2 := hid hb2; clear hb2) | fail)
            go_ret
            exact ⟨rfl, (HBF.out.trans (HZ1.out.mono (by omega))).trans (HZ2.out.mono (by omega))⟩
          · have e9 := HTR.out rfl rfl
            subst e9
            go_wp2_with (first | (go_at_call 19; (with_reducible refine (HFAB.out xf).mono ?_); rintro e z1 ⟨rfl, hb1⟩; have hsz1 := hb1.size; have hG0z1 := (hb1.block g0 (by omega)).trans hG0xf; have hG1z1 := (hb1.block g1 (by omega)).trans hG1xf; have hG2z1 := (hb1.block g2 (by omega)).trans hG2xf; have q10z1 : z1.cell? ⟨g1, 0, none⟩ = some (.int .u32 t0) := (cell_of_row z1 _ _ _ _ _ hG1z1).trans rfl; have q11z1 : z1.cell? ⟨g1, 1, none⟩ = some (.int .u8 t1) := (cell_of_row z1 _ _ _ _ _ hG1z1).trans rfl; have q12z1 : z1.cell? ⟨g1, 2, none⟩ = some (.int .u32 t2) := (cell_of_row z1 _ _ _ _ _ hG1z1).trans rfl; have q20z1 : z1.cell? ⟨g2, 0, none⟩ = some (.int .u32 u0) := (cell_of_row z1 _ _ _ _ _ hG2z1).trans rfl; have q21z1 : z1.cell? ⟨g2, 1, none⟩ = some (.int .u8 u1) := (cell_of_row z1 _ _ _ _ _ hG2z1).trans rfl; have q22z1 : z1.cell? ⟨g2, 2, none⟩ = some (.int .u32 u2) := (cell_of_row z1 _ _ _ _ _ hG2z1).trans rfl; have HZ1 := hid hb1; clear hb1) | (go_at_call 19; (with_reducible refine (HFBC.out z1).mono ?_); rintro e z2 ⟨rfl, hb2⟩; have hsz2 := hb2.size; have hG0z2 := (hb2.block g0 (by omega)).trans hG0z1; have hG1z2 := (hb2.block g1 (by omega)).trans hG1z1; have hG2z2 := (hb2.block g2 (by omega)).trans hG2z1; have q00z2 : z2.cell? ⟨g0, 0, none⟩ = some (.int .u32 s0) := (cell_of_row z2 _ _ _ _ _ hG0z2).trans rfl; have q01z2 : z2.cell? ⟨g0, 1, none⟩ = some (.int .u8 s1) := (cell_of_row z2 _ _ _ _ _ hG0z2).trans rfl; have q02z2 : z2.cell? ⟨g0, 2, none⟩ = some (.int .u32 s2) := (cell_of_row z2 _ _ _ _ _ hG0z2).trans rfl; have q20z2 : z2.cell? ⟨g2, 0, none⟩ = some (.int .u32 u0) := (cell_of_row z2 _ _ _ _ _ hG2z2).trans rfl; have q21z2 : z2.cell? ⟨g2, 1, none⟩ = some (.int .u8 u1) := (cell_of_row z2 _ _ _ _ _ hG2z2).trans rfl; have q22z2 : z2.cell? ⟨g2, 2, none⟩ = some (.int .u32 u2) := (cell_of_row z2 _ _ _ _ _ hG2z2).trans rfl; have HZ2 := hid hb2; clear hb2) | (go_at_call 19; (with_reducible refine (HFAC.out z2).mono ?_); rintro e z3 ⟨rfl, hb3⟩; have hsz3 := hb3.size; have hG0z3 := (hb3.block g0 (by omega)).trans hG0z2; have hG1z3 := (hb3.block g1 (by omega)).trans hG1z2; have hG2z3 := (hb3.block g2 (by omega)).trans hG2z2; have HZ3 := hid hb3; clear hb3) | fail)
            go_ret
            exact ⟨rfl, ((HBF.out.trans (HZ1.out.mono (by omega))).trans (HZ2.out.mono (by omega))).trans (HZ3.out.mono (by omega))⟩

/-! ### THE ROW's STEP -/
set_option maxRecDepth 100000 in
theorem lifted (os : Os) (started : os.Started) (H : Type) (enc : TypeId × Value → H) :
    ReturnsInHanded {} Try.checked os 4 .any (Rows.prioOrderSpec.pre6 enc Try.prog Try.f4 Rows.prioOrderRow.domain false) (Rows.prioOrderSpec.post enc Try.prog Try.f4 false true false false) := by
  refine returnsInHanded_of_change (C := Try.checked) own started (by kernel_rfl) Try.func4
    (ChangeSpec.witness6 (enc := enc) (C := Try.checked) false ⟨#[], #[.agg #[.int .u32 0, .int .u8 0, .int .u32 0], .agg #[.int .u32 0, .int .u8 0, .int .u32 0], .agg #[.int .u32 0, .int .u8 0, .int .u32 0]], []⟩ 8 (by kernel_rfl) (by kernel_rfl) (by kernel_rfl) (by kernel_rfl)) ?_
  intro W base args ds gs before hval0 hW hcnd _
  have hval : ∀ (j : Nat) t v, Try.f4.params[j]? = some t → args[j]? = some v → Value.okWide Try.prog W .any base t v := hval0
  have hW' := hW
  obtain ⟨p, q, hA0, hV, rfl, hfz, hnd⟩ := hW
  have hA : DataW.TrodAll enc Try.prog W 0 (fun _ => true) true Try.f4.params.toList args.toList ds p := hA0
  rw [Try.params4] at hA hval
  obtain ⟨v0, vs0, d0, ds0, p0, q0, hargs, rfl, rfl, h0, r0⟩ := trodAll_cons hA
  obtain ⟨v1, vs1, d1, ds1, p1, q1, rfl, rfl, rfl, h1, r1⟩ := trodAll_cons r0
  obtain ⟨v2, vs2, d2, ds2, p2, q2, rfl, rfl, rfl, h2, r2⟩ := trodAll_cons r1
  obtain ⟨rfl, rfl, rfl⟩ := trodAll_nil r2
  obtain rfl : args = #[v0, v1, v2] := by cases args; simp_all
  obtain ⟨rfl, rfl⟩ := trodVars_none hV
  have k0 := h0
  have lt0 : ∀ x ∈ p0, x.block < W.heap.size := by obtain ⟨m, hm⟩ := k0; exact DataW.trod_lt m _ _ _ hm
  have k1 := h1
  have lt1 : ∀ x ∈ p1, x.block < W.heap.size := by obtain ⟨m, hm⟩ := k1; exact DataW.trod_lt m _ _ _ hm
  have k2 := h2
  have lt2 : ∀ x ∈ p2, x.block < W.heap.size := by obtain ⟨m, hm⟩ := k2; exact DataW.trod_lt m _ _ _ hm
  have w0 : IsItem W v0 := isItem_of (hval 0 29 v0 rfl rfl) h0
  have w1 : IsItem W v1 := isItem_of (hval 1 29 v1 rfl rfl) h1
  have w2 : IsItem W v2 := isItem_of (hval 2 29 v2 rfl rfl) h2
  clear hA0 hval0
  refine (walk v0 v1 v2 W w0 w1 w2).mono fun e W' ⟨he, bel⟩ => ?_
  subst he
  exact ⟨_, rfl, _, _, _, [], _, [], hW', trodAll_mk1 (shut_bool Try.underlying4 _), (trodAll_cons_mk (Below.trod laidOut (by kernel_rfl) (of_decide_eq_true (by kernel_rfl)) k0 bel lt0) (trodAll_cons_mk (Below.trod laidOut (by kernel_rfl) (of_decide_eq_true (by kernel_rfl)) k1 bel lt1) (trodAll_cons_mk (Below.trod laidOut (by kernel_rfl) (of_decide_eq_true (by kernel_rfl)) k2 bel lt2) trodAll_mk0))), rfl, bel.frame _, fun h => by cases h⟩

theorem over : Rows.prioOrderRow.holds Try.pinned (OpenSpec.ofChange Rows.prioOrderSpec) :=
  OpenClaim.holds_of_wide 4 Try.f4 rfl rfl rfl rfl rfl rfl rfl ⟨rfl, rfl, rfl, rfl, rfl⟩ rfl rfl rfl rfl rfl (by kernel_rfl) Try.func4 (by kernel_rfl)
    (of_decide_eq_true (by kernel_rfl)) (by unfold Func.isWrapper; first | (rw [if_pos (by decide +kernel)]; kernel_rfl) | (rw [if_neg (by decide +kernel)]; exact ⟨rfl, rfl⟩))
    (fun os started H enc _ => lifted os started H enc)

/-- THE STATEMENT -/
theorem prioOrder_holds : Rows.PrioOrderSaid := over
#print axioms prioOrder_holds
end Go.Proofs.Ytflbbhdecedgpaa.prioOrder
