/-
  The others' order: what a heap's items are but for one; one item appended.
-/
import Derived.Test.YtcgfechodbmimaaPrN
import Derived.Test.YtcgfechodbmimaaAppR
namespace Go.Proofs.Ytcgfechodbmimaa
open Go.RowKit
set_option linter.unusedVariables false
set_option linter.unusedSimpArgs false

/-- Not of that ID. -/
def neId (z : Int) (x : It) : Bool := !decide (x.1 = z)

theorem inOrder_apart {q q' : List It} (h : IdsApart q) (h' : IdsApart q') (z : Int) (hp : (q'.filter (neId z)).Perm (q.filter (neId z))) : (inOrder q').filter (neId z) = (inOrder q).filter (neId z) := by
  refine List.Perm.eq_of_pairwise (le := Bef) (fun a b _ _ h1 h2 => absurd h2 (bef_asym h1)) ((inOrder_sorted q' h').filter _) ((inOrder_sorted q h).filter _) ?_
  exact (((inOrder_perm q').filter _).trans hp).trans ((inOrder_perm q).filter _).symm

theorem filt_cons {q : List It} {x : It} (hn : plc q x.1 = none) : ((x :: q).filter (neId x.1)) = q.filter (neId x.1) := by
  rw [List.filter_cons_of_neg]
  unfold neId
  simp

theorem filt_set {q : List It} {x : It} {k : Nat} (hk : k < q.length) (he : (it q k).1 = x.1) : ((q.set k x).filter (neId x.1)) = q.filter (neId x.1) := by
  have h1 : q = q.take k ++ it q k :: q.drop (k + 1) := by
    conv => lhs; rw [← List.take_append_drop k q, List.drop_eq_getElem_cons hk]
    rw [show q[k] = it q k from by have := it_some hk; rw [List.getElem?_eq_getElem hk] at this; exact Option.some.inj this]
  have h2 : q.set k x = q.take k ++ x :: q.drop (k + 1) := by
    rw [List.set_eq_take_append_cons_drop, if_pos hk]
  rw [h2]
  conv => rhs; rw [h1]
  rw [List.filter_append, List.filter_append, List.filter_cons_of_neg (by unfold neId; simp), List.filter_cons_of_neg (by unfold neId; simp [he])]

/-- All but one are the others. -/
theorem filt_one {q q2 : List It} {y : It} (h : IdsApart q) (hp : (y :: q2).Perm q) : (q.filter (neId y.1)).length = q2.length := by
  rw [← ((hp.filter (neId y.1)).length_eq), List.filter_cons_of_neg (by unfold neId; simp)]
  have h1 : IdsApart (y :: q2) := h.perm hp.symm
  unfold IdsApart at h1
  rw [List.map_cons, List.nodup_cons] at h1
  rw [List.filter_eq_self.2]
  intro a ha
  unfold neId
  simp only [Bool.not_eq_true', decide_eq_false_iff_not]
  exact fun e => h1.1 (by rw [← e]; exact List.mem_map_of_mem ha)

theorem filt_take_yes {l : List It} {p : It → Bool} {k : Nat} (hk : k < l.length) (h : p (it l k) = true) : (l.take (k + 1)).filter p = (l.take k).filter p ++ [it l k] := by
  rw [take_it l k hk, List.filter_append, List.filter_cons_of_pos h]
  rfl

theorem filt_take_no {l : List It} {p : It → Bool} {k : Nat} (hk : k < l.length) (h : p (it l k) = false) : (l.take (k + 1)).filter p = (l.take k).filter p := by
  rw [take_it l k hk, List.filter_append, List.filter_cons_of_neg (by simp [h])]
  simp

/-- Where the next of the others stands. -/
theorem filt_at {l : List It} {p : It → Bool} {k : Nat} (hk : k < l.length) (h : p (it l k) = true) : ((l.take k).filter p).length < (l.filter p).length ∧ it (l.filter p) ((l.take k).filter p).length = it l k := by
  have h1 : l.filter p = (l.take k).filter p ++ it l k :: (l.drop (k + 1)).filter p := by
    conv => lhs; rw [← List.take_append_drop k l, List.drop_eq_getElem_cons hk]
    rw [show l[k] = it l k from by have := it_some hk; rw [List.getElem?_eq_getElem hk] at this; exact Option.some.inj this, List.filter_append, List.filter_cons_of_pos h]
  rw [h1]
  refine ⟨by rw [List.length_append, List.length_cons]; omega, ?_⟩
  unfold it
  rw [List.getD_eq_getElem?_getD, List.getElem?_append_right (Nat.le_refl _), Nat.sub_self]
  rfl

theorem app_item (W : World) (base : Nat) (a : Option Addr) (c : Nat) (r : List It) (x : It) (hown : W.ownsRow base 32 3 (.slice a r.length c) r.length (cels r)) (hb : base ≤ W.heap.size) (hl : r.length ≤ 10000) :
    ∃ ad cap w', (Builtin.append_ #[45, 45] 45 #[.slice a r.length c, .slice (some ⟨W.heap.size, 0, none⟩) 1 1]).run Try.prog (W.alloc (.cells #[.int .u32 x.1, .int .u8 x.2.1, .int .u32 x.2.2] 32)) = .ok (.slice ad (r.length + 1) cap) w' ∧ w'.ownsRow base 32 3 (.slice ad (r ++ [x]).length cap) (r ++ [x]).length (cels (r ++ [x])) ∧ Below base W w' := by
  have hb1 : Below W.heap.size W (W.alloc (.cells #[.int .u32 x.1, .int .u8 x.2.1, .int .u32 x.2.2] 32)) := (Below.refl _ W).alloc (Nat.le_refl _) _
  have hsz := hb1.size
  obtain ⟨ad, cap, w2, h1, h2, h3⟩ := run_apps (W.alloc (.cells #[.int .u32 x.1, .int .u8 x.2.1, .int .u32 x.2.2] 32)) 45 base 45 32 3 12 (.agg #[.int .u32 0, .int .u8 0, .int .u32 0]) Try.underlying45 (by kernel_rfl) rfl (by omega) (.slice a r.length c) (.slice (some ⟨W.heap.size, 0, none⟩) 1 1) r.length 1 (cels r) [.int .u32 x.1, .int .u8 x.2.1, .int .u32 x.2.2] (owns_below hown hb1) (SrcC.lit W _ _ 1 _ rfl) rfl (by simp [Value.oneCell']) (by omega) (by omega) (by omega)
  refine ⟨ad, cap, w2, h1, ?_, ?_⟩
  · rw [List.length_append, List.length_singleton, show cels (r ++ [x]) = cels r ++ [.int .u32 x.1, .int .u8 x.2.1, .int .u32 x.2.2] from cels_snoc r x]
    exact h2
  · refine (hb1.mono hb).trans (below_of_keeps (Keeps.of_grown h3) (by omega) fun k e => owns_blk_ge hown k e)

end Go.Proofs.Ytcgfechodbmimaa
