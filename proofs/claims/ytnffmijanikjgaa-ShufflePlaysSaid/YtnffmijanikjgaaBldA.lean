/-
  Layer 13: the document's example.
-/
import Derived.Test.YtnffmijanikjgaaStd
import Derived.Test.YtnffmijanikjgaaShfE
namespace Go.Proofs.Ytnffmijanikjgaa
open Go.RowKit Go.Shelf
set_option linter.unusedVariables false

def sa0 : Mx := mx0 3 3
def sa1 : Mx := sa0.stand 0 [0, 1] 1
def sa2 : Mx := sa1.stand 1 [2] 2
def sa3 : Mx := sa2.stand 2 [0] 3

theorem sa_1 : sa0.where 1 = none ∧ sa0.fit 0 [0, 1] = true ∧ OkL sa0.n [0, 1] := ⟨by decide, by decide, by unfold OkL; decide⟩
theorem sa_2 : sa1.where 2 = none ∧ sa1.fit 1 [2] = true ∧ OkL sa1.n [2] := ⟨by decide, by decide, by unfold OkL; decide⟩
theorem sa_3 : sa2.where 3 = none ∧ sa2.fit 2 [0] = true ∧ OkL sa2.n [0] := ⟨by decide, by decide, by unfold OkL; decide⟩
theorem sa_one : One sa3 := (((one0 3 3).stand (m := sa0) (by decide) (by decide) sa_1.2.2 sa_1.1 sa_1.2.1 (by decide)).stand (m := sa1) (by decide) (by decide) sa_2.2.2 sa_2.1 sa_2.2.1 (by decide)).stand (m := sa2) (by decide) (by decide) sa_3.2.2 sa_3.1 sa_3.2.1 (by decide)
set_option maxRecDepth 100000 in
theorem sa_u : sa3.unify.2 = [(2, 1, 0), (3, 2, 1)] ∧ sa3.unify.1.c 2 = 2 ∧ sa3.unify.1.c 16 = 3 ∧ sa3.unify.1.used = 2 ∧ sa3.c 18 = 2 ∧ sa3.unify.1.r = 3 ∧ sa3.unify.1.n = 3 := by decide +kernel

section
variable {w : World} {ops : Array Oper} {rest : List Oper} {o : Oper} {a : Act} {Q : Exit → Act → World → Prop}
/-- A struct, loaded whole out of a row, at a guarded operation. -/
theorem load_w (hw : Region.wanted o (yielded ops a.tmps) = true) (ty : TypeId) (x : Operand) (ho : o.op = .load ty x) (b off : Nat) (cs : Array Value) (hr : ∀ j v, cs.toList[j]? = some v → w.cell? ⟨b, off + j, none⟩ = some v)
    (fs : Array Field) (hu : Try.prog.underlying ty = some (.struct fs)) (hi : (Try.prog.info? ty).map (·.size) = some cs.size) (hx : a.eval x = .pointer (some ⟨b, off, none⟩)) (hK : wpList Try.prog ops Q rest (a.put o.dst (.agg cs)) w) : wpList Try.prog ops Q (o :: rest) a w := by
  refine BigFrame.wpList_want hw fun K hk => ?_
  unfold Oper.wp execOp
  have hl : (loadCells ⟨b, off, none⟩ cs.toList.length).run Try.prog w = .ok cs.toList.toArray w :=
    run_loadCells_list (P := Try.prog) w ⟨b, off, none⟩ _ (fun j v hv => by rw [Addr.add_lit]; exact hr j v hv)
  have hagg : (isAgg ty).run Try.prog w = .ok true w := by
    unfold isAgg
    rw [Sem.run_bind, run_underlying hu w]
    rfl
  have hload : (loadVar ty ⟨b, off, none⟩).run Try.prog w = .ok (.agg cs) w := by
    cases hq : Try.prog.info? ty with
    | none => rw [hq] at hi; cases hi
    | some i =>
      have hs : i.size = cs.size := by rw [hq] at hi; simpa using hi
      have hl' : (loadCells ⟨b, off, none⟩ cs.size).run Try.prog w = .ok cs w := by simpa using hl
      simp [loadVar, Sem.run_bind, hagg, sizeOf, typeInfo, hq, hs, hl']
  simp only [ho, hx, Instr.loadAt, Instr.sureAddr, Sem.run_bind, Sem.run_pure, Result.andThen_ok, hload]
  exact hk _ _ hK
end

theorem at_as (w : World) (b i k x : Nat) (m : Mx) (h : MxAt w b m) (hi : i < m.r) (hk : k < m.n) (hx : m.c (16 * i + k) = x) :
    Calls Try.prog 38 #[.pointer (some ⟨b, 0, none⟩), .int .i64 i, .int .i64 k] w fun e w' => e = .returned (.int .u32 x) ∧ w = w' := by
  rw [← hx]; exact at_yes w b m i k h hi hk

theorem size_move : (Try.prog.info? 76).map (·.size) = some 3 := by kernel_rfl

set_option maxHeartbeats 1000000 in
theorem awake13_any (w : World) : Calls Try.prog 24 #[] w fun e w' => e = .returned (.bool true) ∧ Below w.heap.size w w' := by
  go_enter Try.func24, Try.ntmps24
  go_wp2_with fail
  refine (new_yes w 3 3 (by omega) (by omega) (by omega) (by omega)).mono ?_
  rintro e w1 ⟨rfl, h1, b1⟩
  have H1 := hid (show MxAt w1 w.heap.size sa0 from h1)
  have B1 := hid b1
  have s1 := h1.lt
  clear h1 b1
  have L1 := hid (show RdV (w1.alloc (.cells #[.int .i64 0, .int .i64 1] 3)) (.slice (some ⟨w1.heap.size, 0, none⟩) 2 2) ([0, 1].map iv) from RdV.lit w1 _ _ _ _ rfl rfl (by simp))
  have C1 := hid ((Below.refl _ w1).alloc (Nat.le_refl _) (.cells #[.int .i64 0, .int .i64 1] 3))
  have t1 : w1.heap.size ≤ (w1.alloc (.cells #[.int .i64 0, .int .i64 1] 3)).heap.size := by simp
  go_wp2_with fail
  refine (put_yes (w1.alloc (.cells #[.int .i64 0, .int .i64 1] 3)) w.heap.size 1 0 _ [0, 1] sa0 (H1.out.below C1.out s1) L1.out (by rintro g o n c e; simp only [Value.slice.injEq, Option.some.injEq, Addr.mk.injEq] at e; omega) (by omega) (by omega) (by decide) sa_1.2.2 sa_1.1 sa_1.2.1).mono ?_
  rintro e w2 ⟨rfl, h2, k2⟩
  have H2 := hid (show MxAt w2 w.heap.size sa1 from h2)
  have K2 := hid k2
  have s2 := k2.size
  clear h2 k2
  have L2 := hid (show RdV (w2.alloc (.cells #[.int .i64 2] 3)) (.slice (some ⟨w2.heap.size, 0, none⟩) 1 1) ([2].map iv) from RdV.lit w2 _ _ _ _ rfl rfl (by simp))
  have C2 := hid ((Below.refl _ w2).alloc (Nat.le_refl _) (.cells #[.int .i64 2] 3))
  have t2 : w2.heap.size ≤ (w2.alloc (.cells #[.int .i64 2] 3)).heap.size := by simp
  go_wp2_with fail
  refine (put_yes (w2.alloc (.cells #[.int .i64 2] 3)) w.heap.size 2 1 _ [2] sa1 (H2.out.below C2.out (by omega)) L2.out (by rintro g o n c e; simp only [Value.slice.injEq, Option.some.injEq, Addr.mk.injEq] at e; omega) (by omega) (by omega) (by decide) sa_2.2.2 sa_2.1 sa_2.2.1).mono ?_
  rintro e w3 ⟨rfl, h3, k3⟩
  have H3 := hid (show MxAt w3 w.heap.size sa2 from h3)
  have K3 := hid k3
  have s3 := k3.size
  clear h3 k3
  have L3 := hid (show RdV (w3.alloc (.cells #[.int .i64 0] 3)) (.slice (some ⟨w3.heap.size, 0, none⟩) 1 1) ([0].map iv) from RdV.lit w3 _ _ _ _ rfl rfl (by simp))
  have C3 := hid ((Below.refl _ w3).alloc (Nat.le_refl _) (.cells #[.int .i64 0] 3))
  have t3 : w3.heap.size ≤ (w3.alloc (.cells #[.int .i64 0] 3)).heap.size := by simp
  go_wp2_with fail
  refine (put_yes (w3.alloc (.cells #[.int .i64 0] 3)) w.heap.size 3 2 _ [0] sa2 (H3.out.below C3.out (by omega)) L3.out (by rintro g o n c e; simp only [Value.slice.injEq, Option.some.injEq, Addr.mk.injEq] at e; omega) (by omega) (by omega) (by decide) sa_3.2.2 sa_3.1 sa_3.2.1).mono ?_
  rintro e w4 ⟨rfl, h4, k4⟩
  have H4 := hid (show MxAt w4 w.heap.size sa3 from h4)
  have K4 := hid k4
  have s4 := k4.size
  clear h4 k4
  go_wp2_with fail
  refine (unify_any w4 w.heap.size sa3 H4.out sa_one).mono ?_
  rintro e w5 ⟨v5, rfl, hv5, h5, b5⟩
  rw [sa_u.1] at hv5
  have H5 := hid h5
  have B5 := hid b5
  have H45 := hid (H4.out.below b5 H4.out.lt)
  have s5 := h5.lt
  obtain ⟨g5, c5, rfl, hc5⟩ : ∃ g c, v5 = .slice (some ⟨g, 0, none⟩) 2 c ∧ ∀ j v, [Value.int .u32 2, .int .i64 1, .int .i64 0][j]? = some v → w5.cell? ⟨g, 0 + j, none⟩ = some v := by
    rcases owns_shape hv5 with ⟨_, hz⟩ | ⟨g, c, rfl, _⟩
    · simp at hz
    · refine ⟨g, c, rfl, fun j v hj => ?_⟩
      have := World.ownsRow.cells hv5 (g := g) rfl j v (by
        show (mvc (2, 1, 0) ++ mvcs [(3, 2, 1)])[j]? = some v
        rw [List.getElem?_append_left (by have := (List.getElem?_eq_some_iff.1 hj).1; exact this)]
        exact hj)
      rwa [Addr.add_lit] at this
  have HC5 := hid hc5
  clear hv5 b5 h5 hc5
  have P1 := hid (show Calls Try.prog 38 #[.pointer (some ⟨w4.heap.size, 0, none⟩), .int .i64 0, .int .i64 2] w5 fun e w' => e = .returned (.int .u32 2) ∧ w5 = w' from at_as w5 w4.heap.size 0 2 2 _ H5.out (by rw [sa_u.2.2.2.2.2.1]; omega) (by rw [sa_u.2.2.2.2.2.2]; omega) sa_u.2.1)
  have P2 := hid (show Calls Try.prog 38 #[.pointer (some ⟨w4.heap.size, 0, none⟩), .int .i64 1, .int .i64 0] w5 fun e w' => e = .returned (.int .u32 3) ∧ w5 = w' from at_as w5 w4.heap.size 1 0 3 _ H5.out (by rw [sa_u.2.2.2.2.2.1]; omega) (by rw [sa_u.2.2.2.2.2.2]; omega) sa_u.2.2.1)
  have P3 := hid ((used_any w5 w4.heap.size _ H5.out).mono (fun e w' (h : e = _ ∧ _) => show e = .returned (.int .i64 2) ∧ Below w5.heap.size w5 w' from ⟨by rw [h.1, sa_u.2.2.2.1]; rfl, h.2⟩))
  have P4 := hid (fun w6 (b6 : Below w5.heap.size w5 w6) => show Calls Try.prog 38 #[.pointer (some ⟨w.heap.size, 0, none⟩), .int .i64 1, .int .i64 2] w6 fun e w' => e = .returned (.int .u32 2) ∧ w6 = w' from at_as w6 w.heap.size 1 2 2 _ (H45.out.below b6 H45.out.lt) (by decide) (by decide) sa_u.2.2.2.2.1)
  clear H5 H45
  go_wp2_with (first
    | (refine load_w (by rfl) 76 (.tmp 28) rfl g5 0 #[.int .u32 2, .int .i64 1, .int .i64 0] HC5.out _ Try.underlying76 size_move rfl ?_)
    | (go_at_call 32; refine P3.out.mono ?_; rintro e w6 ⟨rfl, b6⟩; have B6 := hid b6; clear b6)
    | (go_at_call 38; with_reducible refine P1.out.mono ?_; rintro e w' ⟨rfl, rfl⟩)
    | (go_at_call 38; with_reducible refine P2.out.mono ?_; rintro e w' ⟨rfl, rfl⟩)
    | (go_at_call 38; with_reducible refine (P4.out w6 B6.out).mono ?_; rintro e w' ⟨rfl, rfl⟩)
    | fail)
  go_ret
  refine ⟨rfl, ?_⟩
  have a1 : Below w.heap.size w w2 := B1.out.trans ((C1.out.mono (by omega)).trans (K2.out.below (by omega) (fun i hi => by omega)))
  have a2 : Below w.heap.size w w3 := a1.trans ((C2.out.mono (by omega)).trans (K3.out.below (by omega) (fun i hi => by omega)))
  have a3 : Below w.heap.size w w4 := a2.trans ((C3.out.mono (by omega)).trans (K4.out.below (by omega) (fun i hi => by omega)))
  exact a3.trans ((B5.out.mono (by omega)).trans (B6.out.mono (by omega)))

end Go.Proofs.Ytnffmijanikjgaa
