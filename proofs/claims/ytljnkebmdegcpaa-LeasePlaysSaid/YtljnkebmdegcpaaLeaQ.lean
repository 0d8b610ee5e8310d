/-
  A book that may be nil.
-/
import Derived.Test.YtljnkebmdegcpaaLeaS
import Derived.Test.YtljnkebmdegcpaaLeaU
import Derived.Test.YtljnkebmdegcpaaLeaA
import Derived.BigQuiet
import Derived.Lib.SliceRun
namespace Go.Proofs.Ytljnkebmdegcpaa
open Go.RowKit
set_option linter.unusedVariables false
set_option linter.unusedSimpArgs false

def bptr : Option (Nat × Nat) → Value
  | none => .pointer none
  | some (b, _) => .pointer (some ⟨b, 0, none⟩)
def BkO (w : World) : Option (Nat × Nat) → List Nd → Prop
  | none, l => l = []
  | some (b, g), l => BkAt w b g l
def BS : Option (Nat × Nat) → Nat → Prop
  | none, _ => False
  | some (_, g), i => i = g
theorem BkO.below {w w' : World} {o : Option (Nat × Nat)} {l : List Nd} (h : BkO w o l) (hb : Below w.heap.size w w') : BkO w' o l := by
  rcases o with _ | ⟨b, g⟩
  · exact h
  · exact BkAt.below h hb
theorem BkO.drewN {w : World} {o : Option (Nat × Nat)} {l : List Nd} (h : BkO w o l) (n : Nat) : BkO (w.drewN n) o l := by
  rcases o with _ | ⟨b, g⟩
  · exact h
  · exact ⟨h.blk, h.row, h.len, h.ok⟩
theorem BkO.ok {w : World} {o : Option (Nat × Nat)} {l : List Nd} (h : BkO w o l) : l.length ≤ 16 ∧ ∀ x ∈ l, NdOk x := by
  rcases o with _ | ⟨b, g⟩
  · have : l = [] := h
    subst this
    exact ⟨Nat.zero_le _, fun x hx => by cases hx⟩
  · exact ⟨BkAt.len h |>.2, BkAt.ok h⟩
/-- A row of another type outlasts what is done to the book. -/
theorem owns_bs {w w' : World} {lo s n : Nat} {e : TypeId} {v : Value} {xs : List Value} {o : Option (Nat × Nat)} {l : List Nd} (h : w.ownsRow lo e s v n xs) (hb : BkO w o l) (hk : Keeps (BS o) w w') (he : e ≠ 65) : w'.ownsRow lo e s v n xs := by
  rcases o with _ | ⟨b, g⟩
  · exact owns_by h fun q hq => hk.block q (World.ownsRow.lt h q hq).2 id
  · refine owns_by h fun q hq => hk.block q (World.ownsRow.lt h q hq).2 fun e' => ?_
    have e' : q = g := e'
    subst e'
    obtain ⟨c, hc⟩ := owns_ty h q hq
    rw [BkAt.row hb] at hc
    simp only [Option.some.injEq, Obj.cells.injEq] at hc
    exact he hc.2.1.symm
theorem hearO (w : World) (o : Option (Nat × Nat)) (l : List Nd) (i : Int) (now life : Nat) (h : BkO w o l) (hn : now ≤ 4294967295) (hl : life ≤ 4294967295) :
    Calls Try.prog 11 #[bptr o, .int .i64 i, .int .u32 (now : Int), .int .u32 (life : Int)] w fun e w' =>
      e = .returned (.tuple #[.bool (hear l i now life).2.1, .bool (hear l i now life).2.2]) ∧ BkO w' o (hear l i now life).1 ∧ Keeps (BS o) w w' := by
  rcases o with _ | ⟨b, g⟩
  · have : l = [] := h
    subst this
    have e : hear [] i now life = ([], false, false) := by unfold hear; rw [if_pos (by show i < 0 ∨ (0 : Int) ≤ i; omega)]
    rw [e]
    refine (hear_nil w i now life).mono ?_
    rintro e w' ⟨rfl, rfl⟩
    exact ⟨rfl, rfl, Keeps.refl _ _⟩
  · exact hear_any w b g l i now life h hn hl
/-- What a tick leaves of a book, with its two rows. -/
def TkO (w w' : World) (o : Option (Nat × Nat)) (vg va : Value) (l : List Nd) (G : List (Nat × Nat)) (A : List Nat) : Prop :=
  BkO w' o l ∧ w'.ownsRow w.heap.size 47 2 vg G.length (gcels G) ∧ w'.ownsRow w.heap.size 3 1 va A.length (A.map ivN) ∧ Keeps (BS o) w w'
theorem tickO (w : World) (o : Option (Nat × Nat)) (l : List Nd) (now : Nat) (h : BkO w o l) (hn : now ≤ 4294967295) :
    Calls Try.prog 13 #[bptr o, .int .u32 (now : Int)] w fun e w' => ∃ vg va, e = .returned (.tuple #[vg, va]) ∧ TkO w w' o vg va (ticks now l) (grants now l l.length) (aways now l l.length) := by
  rcases o with _ | ⟨b, g⟩
  · have : l = [] := h
    subst this
    refine (tick_nil w now).mono ?_
    rintro e w' ⟨rfl, rfl⟩
    exact ⟨_, _, rfl, rfl, World.ownsRow_nil _ _ _ _, World.ownsRow_nil _ _ _ _, Keeps.refl _ _⟩
  · refine (tick_any w b g l now h hn).mono ?_
    rintro e w' ⟨vg, va, rfl, ht⟩
    exact ⟨_, _, rfl, ht.bk, ht.hg, ht.ha, ht.k⟩

set_option maxHeartbeats 1000000 in
theorem state_nil (w : World) (i : Int) : Calls Try.prog 14 #[.pointer none, .int .i64 i] w fun e w' => e = .returned (.int .u8 0) ∧ w = w' := by
  go_enter Try.func14, Try.ntmps14
  go_wp2_with fail
  refine (at_nil w i).mono ?_
  rintro e w' ⟨rfl, rfl⟩
  go_wp2_with fail
  go_ret
  exact ⟨rfl, rfl⟩

set_option maxHeartbeats 1000000 in
theorem life_nil (w : World) (i : Int) : Calls Try.prog 15 #[.pointer none, .int .i64 i] w fun e w' => e = .returned (.int .u32 0) ∧ w = w' := by
  go_enter Try.func15, Try.ntmps15
  go_wp2_with fail
  refine (at_nil w i).mono ?_
  rintro e w' ⟨rfl, rfl⟩
  go_wp2_with fail
  go_ret
  exact ⟨rfl, rfl⟩

set_option maxHeartbeats 1000000 in
theorem until_nil (w : World) (i : Int) : Calls Try.prog 16 #[.pointer none, .int .i64 i] w fun e w' => e = .returned (.int .u32 0) ∧ w = w' := by
  go_enter Try.func16, Try.ntmps16
  go_wp2_with fail
  refine (at_nil w i).mono ?_
  rintro e w' ⟨rfl, rfl⟩
  go_wp2_with fail
  go_ret
  exact ⟨rfl, rfl⟩

theorem ndI_nil (i : Int) : ndI [] i = (0, 0, 0, 0) := by unfold ndI; rw [if_pos (by show i < 0 ∨ (0 : Int) ≤ i; omega)]
theorem stateO (w : World) (o : Option (Nat × Nat)) (l : List Nd) (i : Int) (h : BkO w o l) : Calls Try.prog 14 #[bptr o, .int .i64 i] w fun e w' => e = .returned (.int .u8 ((ndI l i).1 : Int)) ∧ w = w' := by
  rcases o with _ | ⟨b, g⟩
  · have : l = [] := h
    subst this
    rw [ndI_nil]
    exact state_nil w i
  · exact state_any w b g l i h
theorem lifeO (w : World) (o : Option (Nat × Nat)) (l : List Nd) (i : Int) (h : BkO w o l) : Calls Try.prog 15 #[bptr o, .int .i64 i] w fun e w' => e = .returned (.int .u32 ((ndI l i).2.1 : Int)) ∧ w = w' := by
  rcases o with _ | ⟨b, g⟩
  · have : l = [] := h
    subst this
    rw [ndI_nil]
    exact life_nil w i
  · exact life_any w b g l i h
theorem untilO (w : World) (o : Option (Nat × Nat)) (l : List Nd) (i : Int) (h : BkO w o l) : Calls Try.prog 16 #[bptr o, .int .i64 i] w fun e w' => e = .returned (.int .u32 ((ndI l i).2.2.2 : Int)) ∧ w = w' := by
  rcases o with _ | ⟨b, g⟩
  · have : l = [] := h
    subst this
    rw [ndI_nil]
    exact until_nil w i
  · exact until_any w b g l i h

end Go.Proofs.Ytljnkebmdegcpaa
