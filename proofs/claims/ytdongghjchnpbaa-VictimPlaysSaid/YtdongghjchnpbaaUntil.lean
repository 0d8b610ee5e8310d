/-
  A region that draws its order, whose stores change what it loads: what a load reads is said UNTIL the store that waits for it has come up.
-/
import Derived.OrdersHeld
import Derived.StillTail
import Derived.Deep.RegionHeld3
namespace Go.Proofs.Ytdongghjchnpbaa
open Go

section
variable {P : Program} {ops : Array Oper} {Q : Exit → Act → World → Prop} {md : Region.Mode}

/-- Each of these is so as long as its operation has not come up. -/
def UntilAll (C : List (Nat × (World → Prop))) (L : Array Bool) (w : World) : Prop := ∀ c ∈ C, L.getD c.1 true = false → c.2 w

theorem UntilAll.other {C : List (Nat × (World → Prop))} {L : Array Bool} {w : World} {i : Nat} (hC : ∀ c ∈ C, c.1 ≠ i) : UntilAll C (L.setIfInBounds i true) w ↔ UntilAll C L w := by
  constructor
  · intro h c hc hl
    exact h c hc (by rw [getD_set_ne true (Ne.symm (hC c hc))]; exact hl)
  · intro h c hc hl
    rw [getD_set_ne true (Ne.symm (hC c hc))] at hl
    exact h c hc hl

/-- Whatever comes next, and what is said until then is so behind it. -/
def Orders (P : Program) (md : Region.Mode) (ops : Array Oper) (Q : Exit → Act → World → Prop) (C : List (Nat × (World → Prop))) : Nat → Array Bool → Act → World → Prop
  | 0, L, a, w => Region.ready md ops L = [] ∧ Q .normal a w
  | n + 1, L, a, w => (Region.ready md ops L = [] → Q .normal a w) ∧
    ∀ i ∈ Region.ready md ops L, wpOp P ops Q i (fun a' w' => UntilAll C (L.setIfInBounds i true) w' ∧ Orders P md ops Q C n (L.setIfInBounds i true) a' w') a w

theorem Orders.any {C : List (Nat × (World → Prop))} : ∀ (n : Nat) (L : Array Bool) (a : Act) (w : World), Orders P md ops Q C n L a w → wpAny P md ops Q n L a w
  | 0, _, _, _, h => h
  | n + 1, _, _, _, h => ⟨h.1, fun i hi => wpOp_mono (fun a' w' h' => Orders.any n _ a' w' h'.2) (h.2 i hi)⟩

theorem Orders.begins {C : List (Nat × (World → Prop))} {id : Nat} {a : Act} {w : World} (hm : P.follows .mixedOrders = true)
    (h : Orders P .any ops Q C ops.size (Array.replicate ops.size false) a w.drew) : (Code.region id ops true).wp P Q a w :=
  wp_region_any hm (Orders.any _ _ _ _ h)

theorem Orders.ends {C : List (Nat × (World → Prop))} {L : Array Bool} {a : Act} {w : World} (hr : Region.ready md ops L = []) (h : Q .normal a w) : ∀ n, Orders P md ops Q C n L a w
  | 0 => ⟨hr, h⟩
  | _ + 1 => ⟨fun _ => h, by rw [hr]; simp⟩

/-- One that is alone. -/
theorem Orders.one {C : List (Nat × (World → Prop))} {i : Nat} {o : Oper} {n : Nat} {L : Array Bool} {a : Act} {w : World} (hr : Region.ready md ops L = [i]) (ho : ops[i]? = some o)
    (h : ∀ K' : Act → World → Prop, Shut (∀ a w, UntilAll C (L.setIfInBounds i true) w → (UntilAll C (L.setIfInBounds i true) w → Orders P md ops Q C n (L.setIfInBounds i true) a w) → K' a w) → if Region.wanted o (yielded ops a.tmps) = true then Oper.wp P o a w K' Q else K' (a.put o.dst undef) w) :
    Orders P md ops Q C (n + 1) L a w := by
  refine ⟨fun h0 => (by rw [h0] at hr; cases hr), fun j hj => ?_⟩
  rw [hr] at hj
  have e : j = i := by simpa using hj
  subst e
  exact wpOp_step ho (fun K' hK => h K' (fun a w h1 h2 => hK a w ⟨h1, h2 h1⟩))

theorem Orders.first {C : List (Nat × (World → Prop))} {p : World → Prop} {D : List Nat} {i : Nat} {oi : Oper} {v : Value} (hi : ops[i]? = some oi)
    (hsel : ∀ (j : Nat) (o : Oper) cs b, ops[j]? = some o → o.op ≠ .select cs b) (hQ : ∀ c a w, Q (.panic c) (a.put oi.dst v) w → Q (.panic c) a w)
    (hC : ∀ c ∈ C, c.1 ≠ i) (hp : ∀ L w, (∀ d ∈ D, L.getD d true = false) → UntilAll C L w → p w)
    (hD : ∀ d ∈ D, ∃ od, ops[d]? = some od ∧ ∃ e ∈ od.after, Region.binds md e = true ∧ e.on = i) :
    ∀ (n : Nat) (L : Array Bool) (a : Act) (w : World),
      (∀ j oj, ops[j]? = some oj → j ≠ i → L.getD j true = false → (∀ e ∈ oj.after, Region.binds md e = true → e.on ≠ i) → oi.apart ops oj = true) →
      i ∈ Region.ready md ops L → (∀ d ∈ D, L.getD d true = false) → YieldsIf P ops p oi v a → UntilAll C L w →
      Orders P md ops Q C n (L.setIfInBounds i true) (a.put oi.dst v) w → Orders P md ops Q C (n + 1) L a w := by
  intro n
  induction n with
  | zero =>
    intro L a w _ hr hd hy hS H
    refine ⟨fun h => (by rw [h] at hr; cases hr), fun j hj => ?_⟩
    by_cases hji : j = i
    · subst hji
      exact hy.wpOp hi (hp L w hd hS) ⟨(UntilAll.other hC).2 hS, H⟩
    · have h0 := ready_mono hj hji
      rw [H.1] at h0
      cases h0
  | succ n ih =>
    intro L a w hfree hr hd hy hS H
    refine ⟨fun h => (by rw [h] at hr; cases hr), fun j hj => ?_⟩
    by_cases hji : j = i
    · subst hji
      exact hy.wpOp hi (hp L w hd hS) ⟨(UntilAll.other hC).2 hS, H⟩
    · obtain ⟨hun, oj, hoj, hall⟩ := mem_ready.1 hj
      have iun := (mem_ready.1 hr).1
      have ifalse : L.getD i false ≠ true := by
        intro h1
        rcases Nat.lt_or_ge i L.size with h' | h'
        · simp [h'] at iun h1; rw [iun] at h1; cases h1
        · simp [Array.getElem?_eq_none h'] at h1
      have hno : ∀ e ∈ oj.after, Region.binds md e = true → e.on ≠ i := fun e he hb hon => ifalse (by have := hall e he hb; rwa [hon] at this)
      have hdj : ∀ d ∈ D, d ≠ j := fun d hdD e => by
        subst e
        obtain ⟨od, hod, e, he, hb, hon⟩ := hD d hdD
        have e2 : od = oj := Option.some.inj (hod.symm.trans hoj)
        subst e2
        exact hno e he hb hon
      have step := wpOp_putIf hoj (hfree j oj hoj hji hun hno) (fun cs b => hsel i oi cs b hi) (fun cs b => hsel j oj cs b hoj) hQ hy (H.2 j (ready_mono hj hji))
      refine wpOp_mono (fun a' w' h3 => ?_) step
      obtain ⟨hy', hS', H'⟩ := h3
      rw [Array.setIfInBounds_comm _ _ (Ne.symm hji)] at hS' H'
      have hS2 := (UntilAll.other hC).1 hS'
      refine ⟨hS2, ih (L.setIfInBounds j true) a' w' (fun k ok hk hki hkun hkno => hfree k ok hk hki ?_ hkno) (ready_mono hr (Ne.symm hji)) (fun d hdD => ?_) hy' hS2 H'⟩
      · by_cases hjk : j = k
        · subst hjk; exact hun
        · rw [getD_set_ne true hjk] at hkun; exact hkun
      · rw [getD_set_ne true (Ne.symm (hdj d hdD))]; exact hd d hdD

/-- TAKEN FIRST: what yields v as long as p is so, and p is so as long as D has not come up, and D waits for it. -/
theorem Orders.take {C : List (Nat × (World → Prop))} (p : World → Prop) (D : List Nat) {i : Nat} {oi : Oper} {v : Value} {n : Nat} {L : Array Bool} {a : Act} {w : World} (hi : ops[i]? = some oi)
    (hs : Region.noSelect ops = true) (hf : Region.free md ops L i = true) (hr : (Region.ready md ops L).contains i = true) (hQ : ∀ c a w, Q (.panic c) (a.put oi.dst v) w → Q (.panic c) a w)
    (hC : (C.map Prod.fst).all (fun s => decide (s ≠ i)) = true) (hp : ∀ L w, (∀ d ∈ D, L.getD d true = false) → UntilAll C L w → p w)
    (hD : D.all (fun d => Region.waitsFor md ops d i) = true) (hd : D.all (fun d => !(L.getD d true)) = true) (hy : YieldsIf P ops p oi v a) (hS : UntilAll C L w)
    (h : UntilAll C (L.setIfInBounds i true) w → Orders P md ops Q C n (L.setIfInBounds i true) (a.put oi.dst v) w) : Orders P md ops Q C (n + 1) L a w := by
  have hC' : ∀ c ∈ C, c.1 ≠ i := fun c hc => by
    have := List.all_eq_true.1 hC c.1 (List.mem_map.2 ⟨c, hc, rfl⟩)
    simpa using this
  refine Orders.first hi (Region.noSelect_spec hs) hQ hC' hp (fun d hdD => ?_) n L a w (Region.free_spec hi hf) (by simpa using hr) (fun d hdD => ?_) hy hS (h ((UntilAll.other hC').2 hS))
  · exact Region.waitsFor_spec (List.all_eq_true.1 hD d hdD)
  · have := List.all_eq_true.1 hd d hdD
    simpa using this
end

end Go.Proofs.Ytdongghjchnpbaa
