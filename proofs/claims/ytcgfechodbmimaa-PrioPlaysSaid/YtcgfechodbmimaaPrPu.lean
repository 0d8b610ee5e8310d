/-
  The document's Push: an item put into its place.
-/
import Derived.Test.YtcgfechodbmimaaPrFd
namespace Go.Proofs.Ytcgfechodbmimaa
open Go.RowKit Go.ChangeMaps
set_option linter.unusedVariables false
set_option linter.unusedSimpArgs false

section
variable {w : World} {ops : Array Oper} {rest : List Oper} {o : Oper} {a : Act} {Q : Exit → Act → World → Prop}
theorem ap_rit (hgd : o.guard = none) (TS TN : TypeId) (s x : Operand) (ho : o.op = .call { callee := .builtin .append, args := #[s, x], argTypes := #[TS, TN] }) (v u r : Value) (w' : World) (hs : a.eval s = v) (hx : a.eval x = u)
    (hrun : (Builtin.append_ #[TS, TN] o.type #[v, u]).run Try.prog w = .ok r w') (h : wpList Try.prog ops Q rest (a.put o.dst r) w') : wpList Try.prog ops Q (o :: rest) a w :=
  wpList_plain hgd fun _ hK => by
    unfold Oper.wp
    simp [execOp, ho, resolve, invoke, builtin, hs, hx, hrun, Result.andThen]
    exact hK _ _ h
end

theorem app_ritem (W : World) (base : Nat) (a : Option Addr) (c : Nat) (r : List It) (x : It) (hown : W.ownsRow base 29 3 (.slice a r.length c) r.length (cels r)) (hb : base ≤ W.heap.size) (hl : r.length ≤ 10000) :
    ∃ ad cap w', (Builtin.append_ #[26, 26] 26 #[.slice a r.length c, .slice (some ⟨W.heap.size, 0, none⟩) 1 1]).run Try.prog (W.alloc (.cells #[.int .u32 x.1, .int .u8 x.2.1, .int .u32 x.2.2] 29)) = .ok (.slice ad (r.length + 1) cap) w' ∧ w'.ownsRow base 29 3 (.slice ad (r ++ [x]).length cap) (r ++ [x]).length (cels (r ++ [x])) ∧ Below base W w' ∧ Keeps (fun k => (Value.slice a r.length c).ownBlock = some k) W w' := by
  have hb1 : Below W.heap.size W (W.alloc (.cells #[.int .u32 x.1, .int .u8 x.2.1, .int .u32 x.2.2] 29)) := (Below.refl _ W).alloc (Nat.le_refl _) _
  have hsz := hb1.size
  obtain ⟨ad, cap, w2, h1, h2, h3⟩ := run_apps (W.alloc (.cells #[.int .u32 x.1, .int .u8 x.2.1, .int .u32 x.2.2] 29)) 26 base 26 29 3 12 (.agg #[.int .u32 0, .int .u8 0, .int .u32 0]) Try.underlying26 (by kernel_rfl) rfl (by omega) (.slice a r.length c) (.slice (some ⟨W.heap.size, 0, none⟩) 1 1) r.length 1 (cels r) [.int .u32 x.1, .int .u8 x.2.1, .int .u32 x.2.2] (owns_below hown hb1) (SrcC.lit W _ _ 1 _ rfl) rfl (by simp [Value.oneCell']) (by omega) (by omega) (by omega)
  refine ⟨ad, cap, w2, h1, ?_, ?_, (Keeps.of_below hb1 fun i h1 h2 => by omega).trans' (Keeps.of_grown h3) (fun i _ h => h)⟩
  · rw [List.length_append, List.length_singleton, show cels (r ++ [x]) = cels r ++ [.int .u32 x.1, .int .u8 x.2.1, .int .u32 x.2.2] from cels_snoc r x]
    exact h2
  · refine (hb1.mono hb).trans (below_of_keeps (Keeps.of_grown h3) (by omega) fun k e => owns_blk_ge hown k e)

/-- Between two items of Push. -/
def PuRel (x : It) (l : List It) (k : Nat) (dn : Bool) (r : List It) : Prop :=
  if dn = true then ∃ t, t < k ∧ (∀ j, j < t → ¬ Bef x (it l j)) ∧ Bef x (it l t) ∧ r = l.take t ++ x :: (l.take k).drop t else (∀ j, j < k → ¬ Bef x (it l j)) ∧ r = l.take k

theorem PuRel.on {x : It} {l : List It} {k : Nat} {r : List It} (h : PuRel x l k true r) (hk : k < l.length) : PuRel x l (k + 1) true (r ++ [it l k]) := by
  unfold PuRel at *
  rw [if_pos rfl] at *
  obtain ⟨t, h1, h2, h3, rfl⟩ := h
  refine ⟨t, by omega, h2, h3, ?_⟩
  rw [take_it l k hk, List.drop_append_of_le_length (by rw [List.length_take]; omega), List.append_assoc]
  rfl

theorem PuRel.here {x : It} {l : List It} {k : Nat} {r : List It} (h : PuRel x l k false r) (hk : k < l.length) (hb : Bef x (it l k)) : PuRel x l (k + 1) true ((r ++ [x]) ++ [it l k]) := by
  unfold PuRel at *
  rw [if_neg (by simp)] at h
  rw [if_pos rfl]
  obtain ⟨h1, rfl⟩ := h
  refine ⟨k, by omega, h1, hb, ?_⟩
  rw [take_it l k hk, List.drop_append_of_le_length (by rw [List.length_take]; omega), List.drop_of_length_le (by rw [List.length_take]; omega), List.append_assoc]
  rfl

theorem PuRel.off {x : It} {l : List It} {k : Nat} {r : List It} (h : PuRel x l k false r) (hk : k < l.length) (hb : ¬ Bef x (it l k)) : PuRel x l (k + 1) false (r ++ [it l k]) := by
  unfold PuRel at *
  rw [if_neg (by simp)] at *
  obtain ⟨h1, rfl⟩ := h
  refine ⟨fun j hj => ?_, (take_it l k hk).symm⟩
  by_cases e : j = k
  · subst e; exact hb
  · exact h1 j (by omega)

theorem PuRel.len {x : It} {l : List It} {k : Nat} {dn : Bool} {r : List It} (h : PuRel x l k dn r) (hk : k ≤ l.length) : r.length ≤ l.length + 1 := by
  unfold PuRel at h
  split at h
  · obtain ⟨t, h1, h2, h3, rfl⟩ := h
    simp only [List.length_append, List.length_cons, List.length_take, List.length_drop]
    omega
  · obtain ⟨h1, rfl⟩ := h
    rw [List.length_take]
    omega

/-- Where x has gone. -/
def Put11 (x : It) (l l' : List It) : Prop := ∃ t, t ≤ l.length ∧ (∀ j, j < t → ¬ Bef x (it l j)) ∧ (t < l.length → Bef x (it l t)) ∧ l' = l.take t ++ x :: l.drop t

theorem PuRel.end1 {x : It} {l : List It} {r : List It} (h : PuRel x l l.length true r) : Put11 x l r := by
  unfold PuRel at h
  rw [if_pos rfl, List.take_length] at h
  obtain ⟨t, h1, h2, h3, h4⟩ := h
  exact ⟨t, by omega, h2, fun _ => h3, h4⟩

theorem PuRel.end0 {x : It} {l : List It} {r : List It} (h : PuRel x l l.length false r) : Put11 x l (r ++ [x]) := by
  unfold PuRel at h
  rw [if_neg (by simp), List.take_length] at h
  obtain ⟨h1, rfl⟩ := h
  exact ⟨r.length, Nat.le_refl _, h1, fun h => absurd h (by omega), by rw [List.take_length, List.drop_length]⟩

theorem Put11.perm {x : It} {l l' : List It} (h : Put11 x l l') : l'.Perm (x :: l) := by
  obtain ⟨t, h1, h2, h3, rfl⟩ := h
  refine List.perm_middle.trans ?_
  rw [List.take_append_drop]

theorem Put11.sorted {x : It} {l l' : List It} (h : Put11 x l l') (hs : l.Pairwise Bef) (hn : ∀ y ∈ l, y.1 ≠ x.1) : l'.Pairwise Bef := by
  obtain ⟨t, h1, h2, h3, rfl⟩ := h
  have hs' := hs
  rw [← List.take_append_drop t l, List.pairwise_append] at hs'
  obtain ⟨p1, p2, p3⟩ := hs'
  have hx : ∀ y ∈ l.drop t, Bef x y := by
    intro y hy
    obtain ⟨j, hj⟩ := List.getElem?_of_mem hy
    rw [List.getElem?_drop] at hj
    have hl := (List.getElem?_eq_some_iff.1 hj).1
    have hb := h3 (by omega)
    by_cases e : j = 0
    · subst e
      rw [Nat.add_zero, it_some (by omega)] at hj
      rw [← Option.some.inj hj]
      exact hb
    · have h4 := List.pairwise_iff_getElem.1 hs t (t + j) (by omega) hl (by omega)
      rw [List.getElem?_eq_getElem hl] at hj
      rw [← Option.some.inj hj]
      have h5 := it_some (q := l) (k := t) (by omega)
      rw [List.getElem?_eq_getElem (by omega)] at h5
      rw [Option.some.inj h5] at h4
      exact bef_trans hb h4
  refine List.pairwise_append.2 ⟨p1, List.pairwise_cons.2 ⟨hx, p2⟩, fun a ha b hb => ?_⟩
  rcases List.mem_cons.1 hb with rfl | hb
  · obtain ⟨j, hj⟩ := List.getElem?_of_mem ha
    have hjt : j < t := by have := (List.getElem?_eq_some_iff.1 hj).1; rw [List.length_take] at this; omega
    rw [List.getElem?_take_of_lt hjt, it_some (by omega)] at hj
    have h6 := h2 j hjt
    have h7 := Option.some.inj hj
    rw [h7] at h6
    have hal : a ∈ l := List.mem_of_mem_take ha
    rcases bef_total (a := a) (b := b) (fun e => hn a hal (by rw [e])) with h | h
    · exact h
    · exact absurd h h6
  · exact p3 a ha b hb

theorem Put11.inOrder {x : It} {q l' : List It} (h : Put11 x (inOrder q) l') (hi : IdsApart q) (hn : plc q x.1 = none) {q' : List It} (hq : q'.Perm (x :: q)) (hi' : IdsApart q') : l' = inOrder q' := by
  refine List.Perm.eq_of_pairwise (le := Bef) (fun a b _ _ h1 h2 => absurd h2 (bef_asym h1)) (h.sorted (inOrder_sorted q hi) fun y hy => plc_none.1 hn y ((inOrder_perm q).mem_iff.1 hy)) (inOrder_sorted q' hi') ?_
  exact h.perm.trans (((inOrder_perm q).cons x).trans (hq.symm.trans (inOrder_perm q').symm))

end Go.Proofs.Ytcgfechodbmimaa
