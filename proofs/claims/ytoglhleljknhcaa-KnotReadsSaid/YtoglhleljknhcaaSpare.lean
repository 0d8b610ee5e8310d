/-
  quadrillelaw02.spare, kept: their contracts.
-/
import Derived.Test.YtoglhleljknhcaaSame
namespace Go.Proofs.Ytoglhleljknhcaa
open Go.RowKit

/-- What 'spare' answers: l, and in the room behind it a mark. -/
def Spare (w : World) (base : Nat) (v : Value) (l : List UInt8) : Prop :=
  ∃ g cap, v = .slice (some ⟨g, 0, none⟩) l.length cap ∧ Own w base (.slice (some ⟨g, 0, none⟩) (l.length + 1) cap) (l ++ [165])

theorem Spare.below {w w' : World} {base : Nat} {v : Value} {l : List UInt8} (h : Spare w base v l) (hb : Below w.heap.size w w') : Spare w' base v l := by
  obtain ⟨g, cap, e, ho⟩ := h
  exact ⟨g, cap, e, ho.below hb⟩

theorem Spare.rd {w : World} {base : Nat} {v : Value} {l : List UInt8} (h : Spare w base v l) : Rd w v l := by
  obtain ⟨g, cap, rfl, ho⟩ := h
  exact ho.front

set_option maxHeartbeats 400000 in
theorem spare_any (v : Value) (l : List UInt8) (w : World) (h : Rd w v l) (hl : l.length + 1 ≤ 140737488355328) :
    Calls Try.prog 37 #[v] w fun e w' => ∃ v', e = .returned v' ∧ Spare w' w.heap.size v' l ∧ Below w.heap.size w w' := by
  have h0 := h
  obtain ⟨a, cap, rfl, h1, h2, _⟩ := h
  unfold maxLen at h2
  go_enter Try.func37, Try.ntmps37
  go_wp2_with (first | (at_builtin; refine app rfl (.tmp 3) (.tmp 4) rfl w.heap.size (.slice (some ⟨w.heap.size, 0, none⟩) 0 0) _ [] l rfl rfl (Own.empty w _ (Nat.le_refl _)) (h0.alloc _) (by simp; omega) (by simp) ?_; intro ad cp w1 hown hgrow hex; simp only [List.length_nil, Nat.zero_add, List.nil_append] at hown) | (at_builtin; go_must (refine app1 rfl (.tmp 5) (.tmp 6) rfl w.heap.size (.slice ad l.length cp) _ l [165] (l.length + 1) rfl rfl (hown.alloc _) (Rd.one _ 165 165 rfl) rfl (by decide) (by simp; omega) (by have := hgrow.size; simp at this; simp; omega) ?_); intro g2 cp2 w2 hown2 hgrow2 hcp1 hcp2 hg2))
  go_ret
  have hs1 : w.heap.size ≤ w1.heap.size := by have := hgrow.size; simp at this; omega
  exact ⟨_, rfl, ⟨g2, cp2, rfl, hown2⟩, (hown.alloc _).grown (((Own.empty w _ (Nat.le_refl _)).grown ((Below.refl _ _).alloc (Nat.le_refl _) _) hgrow (Nat.le_refl _) (by simp)).alloc hs1 _) hgrow2 (Nat.le_refl _) (by simp; omega)⟩

set_option maxHeartbeats 400000 in
theorem kept_any (q v : Value) (l : List UInt8) (base : Nat) (w : World) (hq : Spare w base q l) (h : Rd w v l) (hl : l.length ≤ 140737488355328) :
    Calls Try.prog 41 #[q, v] w fun e w' => e = .returned (.bool true) ∧ w = w' := by
  obtain ⟨g, cp, rfl, hown⟩ := hq
  have hc := hown.caps
  have hrd : Rd w (.slice (some ⟨g, 0, none⟩) l.length cp) l := hown.front
  have hlast : w.cell? ⟨g, l.length, none⟩ = some (.int .u8 165) := by
    rw [hown.cell l.length (by simp)]
    simp [bv]
  have hsame := same_any _ _ l l w hrd h
  have hH := hid hsame
  clear hsame hrd
  obtain ⟨a, cap, rfl, h1, h2, _⟩ := h
  unfold maxLen at h2
  have hcp1 := hc.2.1
  have hcp2 := hc.2.2
  clear hc hown
  go_enter Try.func41, Try.ntmps41
  go_wp2_with (go_at_call 18; go_must (refine (hH.out).mono ?_); rintro e w' ⟨rfl, rfl⟩)
  go_ret
  exact ⟨rfl, rfl⟩

end Go.Proofs.Ytoglhleljknhcaa
