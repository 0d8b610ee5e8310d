/-
  A region that draws its order, by what is so behind each set of its operations: one goal for each operation, and one behind them all.
-/
import Derived.Test.YtcgfechodbmimaaUntil
import Derived.Test.YtcgfechodbmimaaKeepT
namespace Go.Proofs.Ytcgfechodbmimaa
open Go

/-- How many have not come up. -/
def rankB : List Bool → Nat
  | [] => 0
  | b :: l => (if b then 0 else 1) + rankB l
theorem rank_set : ∀ (l : List Bool) (i : Nat), l[i]? = some false → rankB (l.set i true) + 1 = rankB l
  | [], i, h => by simp at h
  | b :: l, 0, h => by
    simp at h; subst h
    simp [rankB]; omega
  | b :: l, i + 1, h => by
    have := rank_set l i (by simpa using h)
    simp only [List.set_cons_succ, rankB]; omega

section
variable {P : Program} {ops : Array Oper} {Q : Exit → Act → World → Prop} {md : Region.Mode}

theorem ready_undone {L : Array Bool} {i : Nat} (h : i ∈ Region.ready md ops L) : L.toList[i]? = some false := by
  obtain ⟨h1, -⟩ := mem_ready.1 h
  rw [Array.getD_eq_getD_getElem?] at h1
  rw [Array.getElem?_toList]
  cases hx : L[i]? with
  | none => rw [hx] at h1; cases h1
  | some b => rw [hx] at h1; rw [show b = false from h1]

/-- Whatever has come up, in whatever order: what is so is so behind each one more. -/
theorem Orders.inv {a0 : Act} {I : Array Bool → Act → Act → World → Prop}
    (step : ∀ L a w i, I L a0 a w → i ∈ Region.ready md ops L → wpOp P ops Q i (fun a' w' => I (L.setIfInBounds i true) a0 a' w') a w)
    (fin : ∀ L a w, I L a0 a w → Region.ready md ops L = [] → Q .normal a w) :
    ∀ n L a w, rankB L.toList ≤ n → I L a0 a w → Orders P md ops Q [] n L a w := by
  intro n
  induction n with
  | zero =>
    intro L a w hr h
    have h0 : Region.ready md ops L = [] := by
      cases hx : Region.ready md ops L with
      | nil => rfl
      | cons i l =>
        have := rank_set _ _ (ready_undone (show i ∈ Region.ready md ops L by rw [hx]; simp))
        omega
    exact ⟨h0, fin L a w h h0⟩
  | succ n ih =>
    intro L a w hr h
    refine ⟨fun h0 => fin _ a w h h0, fun i hi => ?_⟩
    have hk := rank_set _ _ (ready_undone hi)
    refine wpOp_mono (fun a' w' h' => ⟨fun c hc => (by cases hc), ih _ a' w' ?_ h'⟩) (step L a w i h hi)
    rw [Array.toList_setIfInBounds]; omega

theorem Orders.inv_at {a0 : Act} {n : Nat} {L : Array Bool} {w : World} {I : Array Bool → Act → Act → World → Prop} (start : I L a0 a0 w)
    (step : ∀ L a w i, I L a0 a w → i ∈ Region.ready md ops L → wpOp P ops Q i (fun a' w' => I (L.setIfInBounds i true) a0 a' w') a w)
    (fin : ∀ L a w, I L a0 a w → Region.ready md ops L = [] → Q .normal a w) (hr : Nat.ble (rankB L.toList) n = true) : Orders P md ops Q [] n L a0 w :=
  Orders.inv step fin n L a0 w (Nat.le_of_ble_eq_true hr) start

theorem wpOp_shut {i : Nat} {o : Oper} {K : Act → World → Prop} {a : Act} {w : World} (ho : ops[i]? = some o)
    (h : ∀ K' : Act → World → Prop, Shut (∀ a w, K a w → K' a w) → if Region.wanted o (yielded ops a.tmps) = true then Oper.wp P o a w K' Q else K' (a.put o.dst undef) w) : wpOp P ops Q i K a w :=
  wpOp_step ho h

def bits : Nat → List (List Bool)
  | 0 => [[]]
  | n + 1 => (bits n).flatMap fun l => [true :: l, false :: l]
theorem mem_bits : ∀ (n : Nat) (l : List Bool), l.length = n → l ∈ bits n
  | 0, [], _ => by simp [bits]
  | n + 1, b :: l, h => by
    unfold bits
    rw [List.mem_flatMap]
    refine ⟨l, mem_bits n l (by simpa using h), ?_⟩
    cases b <;> simp
theorem ready_bits (n : Nat) (chk : List Bool → Nat → Bool) (h : ((bits n).all fun bs => (Region.ready md ops bs.toArray).all (chk bs)) = true) (bs : List Bool) (hbs : bs.length = n) {i : Nat} (hi : i ∈ Region.ready md ops bs.toArray) : chk bs i = true :=
  List.all_eq_true.1 (List.all_eq_true.1 h bs (mem_bits n bs hbs)) i hi
theorem ready_end (n : Nat) (chk : List Bool → Bool) (h : ((bits n).all fun bs => !(Region.ready md ops bs.toArray).isEmpty || chk bs) = true) (bs : List Bool) (hbs : bs.length = n) (hr : Region.ready md ops bs.toArray = []) : chk bs = true := by
  have := List.all_eq_true.1 h bs (mem_bits n bs hbs)
  rw [hr] at this
  simpa using this
/-- Whose elements are of another type lies elsewhere. -/
theorem owns_ne {w : World} {base : Nat} {e t : TypeId} {size : Nat} {v : Value} {n g : Nat} {xs : List Value} {z : Array Value} {fr : Nat × Nat} (h : w.ownsRow base e size v n xs) (hg : w.heap[g]? = some (.cells z t fr)) (hne : e ≠ t) : ∀ k, v.ownBlock = some k → k ≠ g := by
  intro k hk e2
  subst e2
  rcases h.2 with ⟨rfl, _⟩ | ⟨g', cap, cur, rfl, hb, hgg, _⟩
  · cases hk
  · have : k = g' := by
      have := hk; simp [Value.ownBlock] at this; exact this.symm
    subst this
    rw [hg] at hgg
    simp only [Option.some.injEq, Obj.cells.injEq] at hgg
    exact hne hgg.2.1.symm
end

end Go.Proofs.Ytcgfechodbmimaa
