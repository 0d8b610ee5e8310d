/-
  A region that draws its order, whose stores change what it loads: where two may come up next.
-/
import Derived.Test.YtcgfechodbmimaaUntil
namespace Go.Proofs.Ytcgfechodbmimaa
open Go

section
variable {P : Program} {ops : Array Oper} {Q : Exit → Act → World → Prop} {md : Region.Mode}

/-- Two that may come up, either one. -/
theorem Orders.two {C : List (Nat × (World → Prop))} {i j : Nat} {o q : Oper} {n : Nat} {L : Array Bool} {a : Act} {w : World} (hr : Region.ready md ops L = [i, j]) (ho : ops[i]? = some o) (hq : ops[j]? = some q)
    (h : ∀ K' : Act → World → Prop, Shut (∀ a w, UntilAll C (L.setIfInBounds i true) w → (UntilAll C (L.setIfInBounds i true) w → Orders P md ops Q C n (L.setIfInBounds i true) a w) → K' a w) → if Region.wanted o (yielded ops a.tmps) = true then Oper.wp P o a w K' Q else K' (a.put o.dst undef) w)
    (h2 : ∀ K' : Act → World → Prop, Shut (∀ a w, UntilAll C (L.setIfInBounds j true) w → (UntilAll C (L.setIfInBounds j true) w → Orders P md ops Q C n (L.setIfInBounds j true) a w) → K' a w) → if Region.wanted q (yielded ops a.tmps) = true then Oper.wp P q a w K' Q else K' (a.put q.dst undef) w) :
    Orders P md ops Q C (n + 1) L a w := by
  refine ⟨fun h0 => (by rw [h0] at hr; cases hr), fun k hk => ?_⟩
  rw [hr] at hk
  simp only [List.mem_cons, List.not_mem_nil, or_false] at hk
  rcases hk with e | e
  · subst e
    exact wpOp_step ho (fun K' hK => h K' (fun a w h1 h2 => hK a w ⟨h1, h2 h1⟩))
  · subst e
    exact wpOp_step hq (fun K' hK => h2 K' (fun a w h1 h2 => hK a w ⟨h1, h2 h1⟩))
end

end Go.Proofs.Ytcgfechodbmimaa
