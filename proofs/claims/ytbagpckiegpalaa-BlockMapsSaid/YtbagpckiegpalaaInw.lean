/-
  What is ready has what it waits for; where nothing is ready all is done: for regions of any size.
-/
import Derived.Test.YtbagpckiegpalaaInv
import Derived.StillTail
namespace Go.Proofs.Ytbagpckiegpalaa
open Go
section
variable {P : Program} {ops : Array Oper} {md : Region.Mode}
theorem ready_has (needs : List (List Nat)) (hn : ((List.range needs.length).all fun i => (needs.getD i []).all fun j => Region.waitsFor md ops i j) = true) (hs : Nat.beq ops.size needs.length = true) {L : Array Bool} {i : Nat} (hi : i ∈ Region.ready md ops L) :
    i < needs.length ∧ L.getD i true = false ∧ ∀ j ∈ needs.getD i [], L.getD j false = true := by
  obtain ⟨h1, o, ho, h2⟩ := mem_ready.1 hi
  have hlt : i < needs.length := by
    have := (Array.getElem?_eq_some_iff.1 ho).1
    have e := Nat.eq_of_beq_eq_true hs
    omega
  refine ⟨hlt, h1, fun j hj => ?_⟩
  have h3 := List.all_eq_true.1 (List.all_eq_true.1 hn i (List.mem_range.2 hlt)) j hj
  obtain ⟨o', ho', e, he, hb, rfl⟩ := Region.waitsFor_spec h3
  rw [ho] at ho'
  simp only [Option.some.injEq] at ho'
  subst ho'
  exact h2 e he hb
theorem ready_done (hb : ((List.range ops.size).all fun i => ((ops[i]?).map fun o => o.after.all fun e => !Region.binds md e || decide (e.on < i)).getD true) = true) {L : Array Bool} (hs : Nat.beq L.size ops.size = true) (h : Region.ready md ops L = []) : (L.toList.all id) = true := by
  have e := Nat.eq_of_beq_eq_true hs
  have key : ∀ i, i < ops.size → L.getD i false = true := by
    intro i
    induction i using Nat.strongRecOn with
    | ind i ih =>
      intro hi
      cases hx : L.getD i false with
      | true => rfl
      | false =>
        have : i ∈ Region.ready md ops L := by
          refine mem_ready.2 ⟨?_, ops[i], Array.getElem?_eq_getElem hi, fun ed he hbd => ?_⟩
          · rw [Array.getD_eq_getD_getElem?, Array.getElem?_eq_getElem (by omega)] at hx ⊢
            exact hx
          · have h1 := List.all_eq_true.1 hb i (List.mem_range.2 hi)
            rw [Array.getElem?_eq_getElem hi] at h1
            simp only [Option.map_some, Option.getD_some] at h1
            have h2 := Array.all_eq_true_iff_forall_mem.1 h1 ed he
            rw [hbd] at h2
            have h3 : ed.on < i := of_decide_eq_true (by simpa using h2)
            exact ih _ h3 (by omega)
        rw [h] at this
        cases this
  rw [List.all_eq_true]
  intro b hb'
  obtain ⟨i, hi, rfl⟩ := List.mem_iff_getElem.1 hb'
  have hi' : i < L.size := by simpa using hi
  have := key i (by omega)
  rw [Array.getD_eq_getD_getElem?, Array.getElem?_eq_getElem hi'] at this
  simpa using this
end
end Go.Proofs.Ytbagpckiegpalaa
