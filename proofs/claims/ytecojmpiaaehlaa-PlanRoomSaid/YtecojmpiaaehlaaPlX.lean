/-
  Room, plainly: whoever starts has the nodes that it asked for, each free by then; no two have one cell at one time.
-/
import Derived.Test.YtecojmpiaaehlaaPlY
import Derived.Test.YtecojmpiaaehlaaLwC
namespace Go.Proofs.Ytecojmpiaaehlaa
set_option linter.unusedVariables false

theorem top_aftL {p : List (List Nat)} (hp : TopP p) (l : List (Int × Int)) : TopP (aftL p l) := by
  unfold aftL
  induction l generalizing p with
  | nil => exact hp
  | cons a l ih => exact ih (hp.aft a)
theorem room_a {p : List (List Nat)} {L : List (Int × Int)} {i t r : Nat} {ns : List Nat} {a : Int × Int} (hp : TopP p) (ha : L[i]? = some a) (h : planAt p L i = some (t, r, ns)) :
    (ns.length : Int) = a.1 ∧ r < p.length ∧ ∀ n, n ∈ ns → n < (p.getD r []).length ∧ (p.getD r []).getD n 0 ≤ t ∧ ((aftL p (L.take i)).getD r []).getD n 0 ≤ t := by
  rw [planAt_of ha] at h
  obtain ⟨hr, k, hk0, hk, hT, hns⟩ := first_row h
  rw [aftL_len] at hr
  refine ⟨by rw [hns, sel_len hk hT, hk0], hr, fun n hn => ?_⟩
  rw [hns] at hn
  have h1 := sel_mem hn
  rw [aftL_rlen] at h1
  have h2 := ((aftL_le hp (L.take i)).2 r).2 n
  exact ⟨h1.1, Nat.le_trans h2 h1.2, h1.2⟩
theorem room_b {p : List (List Nat)} {L : List (Int × Int)} {i j t t' r n : Nat} {ns ns' : List Nat} {a b : Int × Int} (hp : TopP p) (ha : L[i]? = some a) (h : planAt p L i = some (t, r, ns)) (hj : j < i) (hb : L[j]? = some b)
    (h' : planAt p L j = some (t', r, ns')) (hn : n ∈ ns) (hn' : n ∈ ns') : addT t' (max b.2 1) ≤ t := by
  have h1 := ((room_a hp ha h).2.2 n hn).2.2
  have hin := ((room_a hp hb h').2.2 n hn').1
  have hr := (room_a hp hb h').2.1
  rw [planAt_of hb] at h'
  have h2 : aftL p (L.take (j + 1)) = resI (aftL p (L.take j)) true t' r (ns'.map Int.ofNat) b.2 := by
    rw [take_snoc_a hb, aftL_snoc, aft_some h']
  have h3 : ((aftL p (L.take (j + 1))).getD r []).getD n 0 = addT t' (max b.2 1) := by
    rw [h2, res_cell (by rw [aftL_len]; exact hr), if_pos ⟨rfl, hn', by rw [aftL_rlen]; exact hin⟩]
  have h4 : L.take i = L.take (j + 1) ++ (L.take i).drop (j + 1) := by
    conv => lhs; rw [← List.take_append_drop (j + 1) (L.take i)]
    rw [List.take_take, Nat.min_eq_left (by omega)]
  rw [h4, aftL_app] at h1
  have h5 := ((aftL_le (top_aftL hp (L.take (j + 1))) ((L.take i).drop (j + 1))).2 r).2 n
  rw [h3] at h5
  exact Nat.le_trans h5 h1
/-- The end, as the law reckons it. -/
theorem end_eq {t' : Nat} (ht : t' ≤ 1099511627776) (len : Int) : ((addT t' (max len 1) : Nat) : Int) = min 1099511627776 ((t' : Int) + max 1 (min len 1099511627776)) := by
  unfold addT bnd topN
  omega

end Go.Proofs.Ytecojmpiaaehlaa
