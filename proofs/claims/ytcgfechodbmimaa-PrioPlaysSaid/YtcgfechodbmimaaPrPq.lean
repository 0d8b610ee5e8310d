/-
  PrioPlays: Push, Remove, Change, Pop beside the document's.
-/
import Derived.Test.YtcgfechodbmimaaPrPp
namespace Go.Proofs.Ytcgfechodbmimaa
open Go.RowKit Go.ChangeMaps
set_option linter.unusedVariables false
set_option linter.unusedSimpArgs false

theorem PP.real {w : World} {base K : Nat} {hp : Option Addr} {u : Value} {l : List It} (h : PP w base false hp u l K) : ∃ lo b m v q, hp = some ⟨b, 0, none⟩ ∧ RwAt w lo b v m q ∧ HeapN q q.length ∧ l = inOrder q ∧ RdL w (Hb b m v) u l ∧ base ≤ lo ∧ q.length ≤ K := by
  unfold PP at h
  rw [if_neg (by simp)] at h
  exact h

theorem PP.nil {w : World} {base K : Nat} {hp : Option Addr} {u : Value} {l : List It} (h : PP w base true hp u l K) : hp = none ∧ l = [] ∧ RdL w (fun _ => False) u [] := by
  unfold PP at h
  rw [if_pos rfl] at h
  exact h

theorem PP.mk {w : World} {base K lo b m : Nat} {v u : Value} {q l : List It} (h1 : RwAt w lo b v m q) (h2 : HeapN q q.length) (h3 : l = inOrder q) (h4 : RdL w (Hb b m v) u l) (h5 : base ≤ lo) (h6 : q.length ≤ K) : PP w base false (some ⟨b, 0, none⟩) u l K := by
  unfold PP
  rw [if_neg (by simp)]
  exact ⟨lo, b, m, v, q, rfl, h1, h2, h3, h4, h5, h6⟩

theorem PP.mknil {w : World} {base K : Nat} : PP w base true none (.slice none 0 0) [] K := by
  unfold PP
  rw [if_pos rfl]
  exact ⟨rfl, rfl, RdL.nil w _⟩

theorem plc_inOrder {q : List It} {z : Int} (h : plc q z = none) : plc (inOrder q) z = none := by
  have h1 := plc_perm (inOrder_perm q) z
  rw [h] at h1
  cases h2 : plc (inOrder q) z with
  | none => rfl
  | some k => rw [h2] at h1; cases h1

theorem plc_inOrder' {q : List It} {z : Int} {k : Nat} (h : plc q z = some k) : ∃ j, plc (inOrder q) z = some j := by
  have h1 := plc_perm (inOrder_perm q) z
  rw [h] at h1
  exact Option.isSome_iff_exists.1 h1

/-- Boxes of Ops are left alone. -/
def Kop (w w' : World) : Prop := ∀ (p : Nat) (cs : Array Value), w.heap[p]? = some (.cells cs 31 (0, 0)) → w'.heap[p]? = some (.cells cs 31 (0, 0))

theorem Kop.refl (w : World) : Kop w w := fun _ _ h => h
theorem Kop.trans {a b c : World} (h : Kop a b) (k : Kop b c) : Kop a c := fun p cs hp => k p cs (h p cs hp)
theorem kop_below {w w' : World} (h : Below w.heap.size w w') : Kop w w' := fun p cs hp => (h.block p (Array.getElem?_eq_some_iff.1 hp).1).trans hp
theorem kop_keeps {w w' : World} {lo b m : Nat} {v : Value} {q : List It} (h : RwAt w lo b v m q) (hk : Keeps (Hb b m v) w w') : Kop w w' := fun p cs hp => by
  refine (hk.block p (Array.getElem?_eq_some_iff.1 hp).1 ?_).trans hp
  rintro (e | e | e)
  · rw [e, h.blk] at hp
    simp at hp
  · obtain ⟨es, cl, hm⟩ := h.mp.map
    rw [e, hm] at hp
    simp at hp
  · obtain ⟨cur, hc⟩ := owns_ty h.own p e
    rw [hc] at hp
    simp at hp

/-- PUSH, the document's first. -/
theorem pp_push (w : World) (base K : Nat) (hp : Option Addr) (u : Value) (l : List It) (x : It) (h : PP w base false hp u l K) (hx : kw x.1) (hK : K ≤ 1000) :
    Calls Try.prog 7 #[u, itv x] w fun e w1 => ∃ u1 e1, e = .returned (.tuple #[u1, .int .i64 e1]) ∧ Below w.heap.size w w1 ∧
      ∀ w2, Below w1.heap.size w1 w2 → Calls Try.prog 8 #[.pointer hp, itv x] w2 fun e w3 => e = .returned (.int .i64 e1) ∧ (∃ l3, PP w3 base false hp u1 l3 (K + 1)) ∧ Below base w2 w3 ∧ Kop w2 w3 := by
  obtain ⟨lo, b, m, v, q, rfl, h2, h3, rfl, h5, h6, h7⟩ := h.real
  cases hpl : plc q x.1 with
  | some k =>
    obtain ⟨j, hj⟩ := plc_inOrder' hpl
    refine Calls.mono (rpush_no w _ u (inOrder q) x j h5 hj) ?_
    rintro e w1 ⟨rfl, hb⟩
    refine ⟨u, 7, rfl, hb, fun w2 hb2 => ?_⟩
    have hr2 := (h2.below hb).below hb2
    refine Calls.mono (push11_no w2 lo b m v q x hr2 hx (by rw [hpl]; rfl)) ?_
    rintro e w3 ⟨rfl, hb3⟩
    exact ⟨rfl, ⟨inOrder q, PP.mk (hr2.below hb3) h3 rfl (((h5.below hb).below hb2).below hb3) h6 (by omega)⟩, hb3.mono (Nat.le_trans h6 (Nat.le_trans hr2.lob (Nat.le_of_lt hr2.lt))), kop_below hb3⟩
  | none =>
    refine Calls.mono (rpush_yes w _ u (inOrder q) x h5 (by rw [inOrder_len]; omega) (plc_inOrder hpl)) ?_
    rintro e w1 ⟨u1, rfl, l1, ho, hput, hb⟩
    refine ⟨u1, 0, rfl, hb, fun w2 hb2 => ?_⟩
    have hr2 := (h2.below hb).below hb2
    have hlo := Nat.le_trans h2.lob (Nat.le_of_lt h2.lt)
    have hlt2 := hr2.lt
    have hlo2 := hr2.lob
    refine Calls.mono (push11_yes w2 lo b m v q x hr2 h3 hx hpl (by omega) (by omega)) ?_
    rintro e w3 ⟨rfl, v3, q3, hr3, hh3, hp3, hk3, ho3⟩
    have hi := hput.inOrder h2.ids hpl hp3 hr3.ids
    have ho2 := owns_below ho hb2
    have hS : ∀ k, w.heap.size ≤ k → ¬ Hb b m v k := by
      rintro k hk (e | e | e)
      · have := h2.lt; omega
      · have := h2.mp.lt; omega
      · have := (World.ownsRow.lt h2.own k e).2; omega
    have hrd : RdL w2 (Hb b m v) u1 l1 := RdL.of_own ho2 hS
    have hrd3 := hrd.keeps hk3 (fun k _ h => h)
    refine ⟨rfl, ⟨l1, PP.mk hr3 hh3 hi ?_ h6 (by rw [hp3.length_eq, List.length_cons]; omega)⟩, below_of_keeps hk3 (by omega) (fun k hk => Nat.le_trans h6 (hr2.hb k hk)), kop_keeps hr2 hk3⟩
    obtain ⟨a, c, h8, h9, h10, h11⟩ := hrd
    obtain ⟨a', c', h8', h9', h10', h11'⟩ := hrd3
    refine ⟨a', c', h8', h9', h10', fun k hk => ?_⟩
    obtain ⟨g', off', e', hg', hS', cs'⟩ := h11' k hk
    obtain ⟨g2, off2, e2, hg2, -⟩ := h11 k hk
    have hga : g2 = g' := by
      rw [h8] at h8'
      simp only [Value.slice.injEq] at h8'
      rw [h8'.1, e'] at e2
      simp only [Option.some.injEq, Addr.mk.injEq] at e2
      exact e2.1.symm
    refine ⟨g', off', e', hg', ?_, cs'⟩
    rintro (e | e | e)
    · exact hS' (.inl e)
    · exact hS' (.inr (.inl e))
    · rcases ho3 g' e with h | h
      · exact hS' (.inr (.inr h))
      · omega

end Go.Proofs.Ytcgfechodbmimaa
