/-
  The map that tells at which place each ID is.
-/
import Derived.Test.YtcgfechodbmimaaPrC
import Derived.Test.YtcgfechodbmimaaMapB
import Derived.Maps.OwnSet
namespace Go.Proofs.Ytcgfechodbmimaa
open Go.RowKit Go.ChangeMaps
set_option linter.unusedVariables false

def kw (z : Int) : Prop := (Lit.int .u32 z).wf = true
/-- Block b is a map that tells F of each ID; it has at most c of them. -/
def MpF (w : World) (b c : Nat) (F : Int → Option Nat) : Prop :=
  ∃ (D : DataW Unit) (n : Nat), w.ownsMap Try.prog 27 (plainElem Try.prog 3) b n D ∧ Maps.size D ≤ c ∧ ∀ z, kw z → Maps.has D (.int .u32 z) = (F z).isSome ∧ ∀ k, F z = some k → D.atKey (.int .u32 z) (.lit (.int .i64 0)) = .lit (.int .i64 (k : Int))

theorem tight {w : World} {b n : Nat} {D : DataW Unit} (h : w.ownsMap Try.prog 27 (plainElem Try.prog 3) b n D) : w.ownsMap Try.prog 27 (plainElem Try.prog 3) b (Maps.size D) D := by
  obtain ⟨es, clock, hb, F, _, rfl⟩ := h
  exact ⟨es, clock, hb, F, by simp [Maps.size, length_sorted], rfl⟩
theorem MpF.new (w : World) : MpF (w.alloc (.map #[] 0)) w.heap.size 0 (fun _ => none) :=
  ⟨.map [], 0, World.ownsMap_made _ _ _ _, Nat.le_refl _, fun z hz => ⟨rfl, fun k hk => by cases hk⟩⟩
theorem MpF.block {w w' : World} {b c : Nat} {F : Int → Option Nat} (h : MpF w b c F) (hb : w'.heap[b]? = w.heap[b]?) : MpF w' b c F := by
  obtain ⟨D, n, ⟨es, clock, h1, h2, h3, h4⟩, hs, ha⟩ := h
  exact ⟨D, n, ⟨es, clock, hb.trans h1, h2, h3, h4⟩, hs, ha⟩
theorem MpF.map {w : World} {b c : Nat} {F : Int → Option Nat} (h : MpF w b c F) : ∃ es clock, w.heap[b]? = some (.map es clock) := by
  obtain ⟨D, n, ⟨es, clock, h1, _⟩, _⟩ := h
  exact ⟨es, clock, h1⟩
theorem MpF.lt {w : World} {b c : Nat} {F : Int → Option Nat} (h : MpF w b c F) : b < w.heap.size := by
  obtain ⟨es, clock, h1⟩ := h.map
  exact (Array.getElem?_eq_some_iff.1 h1).1
theorem MpF.ext {w : World} {b c c' : Nat} {F G : Int → Option Nat} (h : MpF w b c F) (hc : c ≤ c') (hG : ∀ z, kw z → G z = F z) : MpF w b c' G := by
  obtain ⟨D, n, h1, h2, h3⟩ := h
  exact ⟨D, n, h1, by omega, fun z hz => by rw [hG z hz]; exact h3 z hz⟩
theorem u32_keyed : Maps.Keyed Try.prog 27 := Maps.int_keyed Try.underlying27
theorem key_u32 {z : Int} (h : kw z) : keyOf Try.prog 27 (.int .u32 z) = some (.int .u32 z) := Maps.keyOf_int_mk Try.underlying27 h
theorem wf_small {k : Nat} (h : k < 1000000) : (Lit.int .i64 (k : Int)).wf = true := wf_row h

def upd (F : Int → Option Nat) (z : Int) (o : Option Nat) : Int → Option Nat := fun y => if y = z then o else F y

theorem turned_heap {w w' : World} {b : Nat} (h : w.mapTurned w' b) : w'.heap.size = w.heap.size ∧ ∀ q, q ≠ b → w'.heap[q]? = w.heap[q]? := by
  have hg := h.grown
  obtain ⟨es, clock, es', clock', hb, rfl⟩ := h
  refine ⟨by simp [setBlock], fun q hq => heap_setBlock_other hb _ hq⟩
theorem turned_below {lo b : Nat} {a w w' : World} (h : w.mapTurned w' b) (ha : Below lo a w) (hb : lo ≤ b) : Below lo a w' := by
  obtain ⟨h1, h2⟩ := turned_heap h
  have hg := h.grown
  refine ha.trans ⟨?_, ?_, ?_, by omega, fun q hq => h2 q (by omega)⟩
  · obtain ⟨es, clock, es', clock', hb, rfl⟩ := h; rfl
  · obtain ⟨es, clock, es', clock', hb, rfl⟩ := h; rfl
  · obtain ⟨es, clock, es', clock', hb, rfl⟩ := h; rfl

theorem MpF.put {w : World} {b c : Nat} {F : Int → Option Nat} (h : MpF w b c F) (hc : c < 1000000) {z : Int} (hz : kw z) {k : Nat} (hk : k < 1000000) :
    ∃ w', (Instr.mapUpdate 49 (.map (some b)) (.int .u32 z) (.int .i64 k)).run Try.prog w = .ok () w' ∧ MpF w' b (if (F z).isSome then c else c + 1) (upd F z (some k)) ∧ w.mapTurned w' b := by
  obtain ⟨D, n, h1, h2, h3⟩ := h
  have ht := h1.tidy u32_keyed
  obtain ⟨w', hrun, h4, h5⟩ := (tight h1).store u32_keyed Try.underlying49 (by unfold maxLen; omega) (key_u32 hz) (plainElem_int Try.underlying3 (wf_small hk))
  refine ⟨w', hrun, ⟨_, _, h4, ?_, fun y hy => ?_⟩, h5⟩
  · rw [Maps.size_put ht, (h3 z hz).1]
    split <;> omega
  · unfold upd
    by_cases e : y = z
    · subst e
      rw [if_pos rfl]
      refine ⟨by rw [Maps.has_put_same ht.isMap (by exact trivial)]; rfl, fun j hj => ?_⟩
      rw [Maps.atKey_put_same ht.isMap (by exact trivial)]
      cases hj; rfl
    · rw [if_neg e]
      have hne : (Lit.int .u32 y) ≠ .int .u32 z := by intro e2; cases e2; exact e rfl
      rw [Maps.has_put_other hne, Maps.atKey_put_other hne]
      exact h3 y hy
theorem MpF.del {w : World} {b c : Nat} {F : Int → Option Nat} (h : MpF w b c F) {z : Int} (hz : kw z) (hF : (F z).isSome = true) :
    ∃ w', (Builtin.delete_ #[49, 27] 0 #[.map (some b), .int .u32 z]).run Try.prog w = .ok (.tuple #[]) w' ∧ MpF w' b (c - 1) (upd F z none) ∧ w.mapTurned w' b := by
  obtain ⟨D, n, h1, h2, h3⟩ := h
  have ht := h1.tidy u32_keyed
  obtain ⟨w', hrun, h4, h5⟩ := h1.drop u32_keyed Try.underlying49 (key_u32 hz) 0
  refine ⟨w', hrun, ⟨_, _, h4, ?_, fun y hy => ?_⟩, h5⟩
  · have := Maps.size_del (k := .int .u32 z) ht
    rw [(h3 z hz).1, hF, if_pos rfl] at this
    omega
  · unfold upd
    by_cases e : y = z
    · subst e
      rw [if_pos rfl, Maps.has_del_same]
      exact ⟨rfl, fun j hj => by cases hj⟩
    · rw [if_neg e]
      have hne : (Lit.int .u32 y) ≠ .int .u32 z := by intro e2; cases e2; exact e rfl
      rw [Maps.has_del_other hne, Maps.atKey_del_other hne]
      exact h3 y hy
theorem MpF.look {w : World} {b c : Nat} {F : Int → Option Nat} (h : MpF w b c F) {z : Int} (hz : kw z) (hzero : (zeroValue 3).run Try.prog w = .ok (.int .i64 0) w) :
    ∃ v : Int, (Instr.lookup 49 (.map (some b)) (.int .u32 z) true).run Try.prog w = .ok (.tuple #[.int .i64 v, .bool (F z).isSome]) w ∧ ∀ k, F z = some k → v = (k : Int) := by
  obtain ⟨D, n, h1, h2, h3⟩ := h
  obtain ⟨v, ps, hrun, hv⟩ := h1.look_ok u32_keyed Try.underlying49 hzero (plainElem_int Try.underlying3 (by decide)) (key_u32 hz)
  obtain ⟨x, rfl, hx, -⟩ := plainElem_int_inv Try.underlying3 hv
  refine ⟨x, by rw [(h3 z hz).1] at hrun; exact hrun, fun k hk => ?_⟩
  have e1 := (h3 z hz).2 k hk
  rw [e1] at hx
  simp at hx
  exact hx.1.symm

end Go.Proofs.Ytcgfechodbmimaa
