/-
  Reserve, plainly, over any numbers.
-/
import Derived.Test.YtecojmpiaaehlaaPlQ
namespace Go.Proofs.Ytecojmpiaaehlaa
open Go.RowKit Go.Shelf
set_option linter.unusedVariables false

def setR (l : List Int) (ns : List Int) (e : Nat) : List Int := ns.foldl (fun (l : List Int) (n : Int) => if 0 ≤ n ∧ n < l.length then l.set n.toNat (e : Int) else l) l
theorem setR_len (l : List Int) (ns : List Int) (e : Nat) : (setR l ns e).length = l.length := by
  unfold setR
  induction ns generalizing l with
  | nil => rfl
  | cons n ns ih => rw [List.foldl_cons, ih]; split <;> simp
theorem setR_snoc (l : List Int) (ns : List Int) (x : Int) (e : Nat) : setR l (ns ++ [x]) e = if 0 ≤ x ∧ x < l.length then (setR l ns e).set x.toNat (e : Int) else setR l ns e := by
  have h := setR_len l ns e
  unfold setR at h ⊢
  rw [List.foldl_append, List.foldl_cons, List.foldl_nil, h]
theorem bnd_setR {e : Nat} (he : e ≤ topN) (ns : List Int) : ∀ l : List Int, bndL (setR l ns e) = setI (bndL l) ns e := by
  unfold setR setI
  induction ns with
  | nil => intro l; rfl
  | cons n ns ih =>
    intro l
    rw [List.foldl_cons, List.foldl_cons, ih]
    congr 1
    have hl : (bndL l).length = l.length := by simp [bndL]
    rw [hl]
    split
    · unfold bndL; rw [List.map_set, bnd_nat he]
    · rfl
/-- Row i behind it. -/
def rowR (ok : Bool) (row : Int) (ns : List Int) (e : Nat) (i : Nat) (l : List Int) : List Int := if ok = true ∧ (i : Int) = row then setR l ns e else l
theorem rowR_len (ok : Bool) (row : Int) (ns : List Int) (e : Nat) (i : Nat) (l : List Int) : (rowR ok row ns e i l).length = l.length := by
  unfold rowR; split
  · exact setR_len _ _ _
  · rfl
def resR (P : List (List Int)) (ok : Bool) (row : Int) (ns : List Int) (e : Nat) : List (List Int) := P.mapIdx (rowR ok row ns e)
theorem resR_len (P : List (List Int)) (ok : Bool) (row : Int) (ns : List Int) (e : Nat) : (resR P ok row ns e).length = P.length := by simp [resR]
theorem resR_at {P : List (List Int)} {ok : Bool} {row : Int} {ns : List Int} {e k : Nat} {l : List Int} (h : P[k]? = some l) : (resR P ok row ns e)[k]? = some (rowR ok row ns e k l) := by
  unfold resR; rw [List.getElem?_mapIdx, h]; rfl
theorem bnd_resR (P : List (List Int)) (ok : Bool) (at_ row : Int) (ns : List Int) (len : Int) : bndP (resR P ok row ns (addT at_ (max len 1))) = resI (bndP P) ok at_ row ns len := by
  have he := addT_le at_ (max len 1)
  unfold resI
  generalize addT at_ (max len 1) = e at *
  refine List.ext_getElem? fun k => ?_
  have h1 : (bndP (resR P ok row ns e))[k]? = P[k]?.map fun l => bndL (rowR ok row ns e k l) := by
    unfold bndP resR
    rw [List.getElem?_map, List.getElem?_mapIdx, Option.map_map]
    rfl
  have h2 : (bndP P)[k]? = P[k]?.map bndL := by unfold bndP; rw [List.getElem?_map]
  rw [h1]
  by_cases hc : ok = true ∧ 0 ≤ row ∧ row < (bndP P).length
  · rw [if_pos hc, List.getElem?_set]
    have hbl : (bndP P).length = P.length := by simp [bndP]
    by_cases hk : row.toNat = k
    · rw [if_pos hk, if_pos (by omega)]
      obtain ⟨l, hx⟩ : ∃ l, P[k]? = some l := ⟨_, List.getElem?_eq_getElem (by omega)⟩
      rw [hx]
      simp only [Option.map_some]
      rw [List.getD_eq_getElem?_getD, hk, h2, hx]
      unfold rowR
      rw [if_pos ⟨hc.1, by omega⟩, bnd_setR he]
      rfl
    · rw [if_neg hk, h2]
      cases hx : P[k]? with
      | none => rfl
      | some l =>
        unfold rowR
        rw [Option.map_some, Option.map_some, if_neg (by rintro ⟨-, h⟩; omega)]
  · rw [if_neg hc, h2]
    have hbl : (bndP P).length = P.length := by simp [bndP]
    cases hx : P[k]? with
    | none => rfl
    | some l =>
      have := (List.getElem?_eq_some_iff.1 hx).1
      unfold rowR
      rw [Option.map_some, Option.map_some, if_neg]
      rintro ⟨h3, h4⟩
      exact hc ⟨h3, by omega, by omega⟩
theorem resR_no {P : List (List Int)} {ok : Bool} {row : Int} {ns : List Int} {e : Nat} (h : ok = false ∨ row < 0 ∨ (P.length : Int) ≤ row) : resR P ok row ns e = P := by
  refine List.ext_getElem? fun k => ?_
  unfold resR
  rw [List.getElem?_mapIdx]
  cases hx : P[k]? with
  | none => rfl
  | some l =>
    have := (List.getElem?_eq_some_iff.1 hx).1
    unfold rowR
    rw [Option.map_some, if_neg]
    rintro ⟨h1, h2⟩
    rcases h with h | h | h
    · rw [h] at h1; cases h1
    · omega
    · omega
theorem resR_yes {P : List (List Int)} {i : Nat} {ns : List Int} {e : Nat} {l : List Int} (h : P[i]? = some l) : resR P true i ns e = P.set i (setR l ns e) := by
  refine List.ext_getElem? fun k => ?_
  unfold resR
  rw [List.getElem?_mapIdx]
  by_cases hk : i = k
  · subst hk
    rw [h, set_get (List.getElem?_eq_some_iff.1 h).1]
    unfold rowR
    rw [Option.map_some, if_pos ⟨rfl, rfl⟩]
  · rw [List.getElem?_set_ne hk]
    cases P[k]? with
    | none => rfl
    | some l =>
      unfold rowR
      rw [Option.map_some, if_neg]
      rintro ⟨-, h2⟩
      omega

end Go.Proofs.Ytecojmpiaaehlaa
