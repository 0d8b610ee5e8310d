/-
  Many jobs of one client, plainly.
-/
import Derived.Test.YtnjfmnombioacaaJbK
namespace Go.Proofs.Ytnjfmnombioacaa
open Go.RowKit
set_option linter.unusedVariables false
set_option linter.unusedSimpArgs false

def jbN (z : Nat) : Jb := (z, 1, 2, 5, 0, 0)
def dnN (z : Nat) : Jb := (z, 1, 2, 5, 4, 5)
def St (a n : Nat) (ov : List Jb) : Tb := ⟨4, n, (List.range' (a + 1) (n - a)).map jbN, ov, (List.replicate 8 Note.R.zero).set 0 ⟨0, n, 0, n, 0, 0⟩⟩
def ovL (a : Nat) : List Jb := (List.range' (a + 1 - min a 64) (min a 64)).map dnN
theorem st_new : newTb 4 = St 0 0 [] := rfl
theorem sub_right (s : Nat) : (subQ s).right = true := rfl
theorem st_len (a n : Nat) (ov : List Jb) : (St a n ov).act.length = n - a := by unfold St; simp
theorem st_last (a n : Nat) (ov : List Jb) : (St a n ov).rs.getD 0 Note.R.zero = ⟨0, n, 0, n, 0, 0⟩ := rfl
theorem turn_next (n : Nat) : turn (n + 1) n = 0 := by
  unfold turn
  rw [if_neg (by omega), if_neg (by omega), if_neg (by omega)]
theorem st_submit (a n : Nat) (ov : List Jb) (h : a ≤ n) (hl : n - a < 64) : (St a n ov).doPlain (subQ (n + 1)) = ((⟨0, n + 1, 0, n + 1, 0, 0⟩, true), St a (n + 1) ov) := by
  have hc : (St a n ov).change (subQ (n + 1)) = ((n + 1, 0), { St a n ov with last := n + 1, act := (St a n ov).act ++ [jbN (n + 1)] }) := by
    show (St a n ov).submit (subQ (n + 1)) = _
    unfold Tb.submit
    rw [if_neg (by show ¬ (3 < 1 ∨ (2 : Int) < 1 ∨ (5 : Int) < 1 ∨ (10000 : Int) < 5); decide), if_neg (by show ¬ ((4 : Int) < 2); decide), if_neg (by rw [st_len]; omega)]
    rfl
  unfold Tb.doPlain
  rw [if_pos (sub_right _), show (subQ (n + 1)).cl = 0 from rfl, st_last, show (subQ (n + 1)).s = n + 1 from rfl, turn_next, if_neg (by simp), if_neg (by simp), hc, if_neg (by simp)]
  refine Prod.ext rfl ?_
  show (⟨4, n + 1, (List.range' (a + 1) (n - a)).map jbN ++ [jbN (n + 1)], ov, ((List.replicate 8 Note.R.zero).set 0 ⟨0, n, 0, n, 0, 0⟩).set 0 ⟨0, n + 1, 0, n + 1, 0, 0⟩⟩ : Tb) = _
  unfold St
  rw [List.set_set, show n + 1 - a = (n - a) + 1 by omega, List.range'_1_concat, List.map_append, show a + 1 + (n - a) = n + 1 by omega]
  rfl
theorem st_full : (St 0 64 []).doPlain (subQ 65) = ((⟨0, 65, 8, 0, 0, 0⟩, false), St 0 64 []) := by kernel_rfl
theorem ovL_len (a : Nat) : (ovL a).length = min a 64 := by unfold ovL; simp
theorem ovL_ids {a : Nat} {x : Jb} (h : x ∈ ovL a) : x.1 ≤ a ∧ a + 1 - min a 64 ≤ x.1 := by
  unfold ovL at h
  rw [List.mem_map] at h
  obtain ⟨z, hz, rfl⟩ := h
  rw [List.mem_range'_1] at hz
  show z ≤ a ∧ _ ≤ z
  omega
theorem ovL_next (a : Nat) : cut64 (ovL a ++ [dnN (a + 1)]) = ovL (a + 1) := by
  unfold cut64
  by_cases h : a < 64
  · rw [if_neg (by rw [List.length_append, ovL_len]; simp; omega)]
    unfold ovL
    rw [show min a 64 = a by omega, show min (a + 1) 64 = a + 1 by omega, show a + 1 - a = 1 by omega, show a + 1 + 1 - (a + 1) = 1 by omega, List.range'_1_concat, List.map_append, show 1 + a = a + 1 by omega]
    rfl
  · rw [if_pos (by rw [List.length_append, ovL_len]; simp; omega)]
    unfold ovL
    rw [show min a 64 = 64 by omega, show min (a + 1) 64 = 64 by omega]
    have e : List.range' (a + 1 - 64) 64 = (a + 1 - 64) :: List.range' (a + 1 + 1 - 64) 63 := by
      rw [show (64 : Nat) = 63 + 1 from rfl, List.range'_succ, show a + 1 + 1 - (63 + 1) = a + 1 - (63 + 1) + 1 by omega]
    have e2 : List.range' (a + 1 + 1 - 64) 64 = List.range' (a + 1 + 1 - 64) 63 ++ [a + 1] := by
      show List.range' (a + 1 + 1 - 64) (63 + 1) = _
      rw [List.range'_1_concat, show a + 1 + 1 - 64 + 63 = a + 1 by omega]
    rw [e, List.map_cons, List.cons_append, List.drop_succ_cons, List.drop_zero, e2, List.map_append]
    rfl
theorem st_finish (a n : Nat) (h : a < n) : (St a n (ovL a)).finish (a + 1) = (0, St (a + 1) n (ovL (a + 1))) := by
  have hp : pos (St a n (ovL a)).over (a + 1) = none := pos_none.2 fun x hx e => by have := (ovL_ids hx).1; omega
  have hact : (St a n (ovL a)).act = jbN (a + 1) :: (List.range' (a + 1 + 1) (n - (a + 1))).map jbN := by
    unfold St
    dsimp only
    rw [show n - a = (n - (a + 1)) + 1 by omega, List.range'_succ, List.map_cons]
  have hq : pos (St a n (ovL a)).act (a + 1) = some 0 := pos_of (x := jbN (a + 1)) (by rw [hact]; rfl) rfl (fun j y hj => absurd hj (by omega))
  unfold Tb.finish Tb.at
  rw [hp, hq]
  simp only [hact, List.getElem?_cons_zero]
  refine Prod.ext rfl ?_
  show (⟨4, n, (St a n (ovL a)).act.eraseIdx 0, cut64 (ovL a ++ [dnN (a + 1)]), _⟩ : Tb) = _
  rw [hact, ovL_next]
  rfl
theorem st_known (k : Nat) : ((St k (64 + k) (ovL k)).job 1).2 = decide (k ≤ 64) := by
  unfold Tb.job
  by_cases h0 : k = 0
  · subst h0; rfl
  · have hp : pos (St k (64 + k) (ovL k)).act 1 = none := pos_none.2 fun x hx e => by
      unfold St at hx
      dsimp only at hx
      rw [List.mem_map] at hx
      obtain ⟨z, hz, rfl⟩ := hx
      rw [List.mem_range'_1] at hz
      have e' : z = 1 := e
      omega
    rw [hp]
    by_cases h : k ≤ 64
    · rw [decide_eq_true h]
      obtain ⟨i, hi⟩ : ∃ i, pos (St k (64 + k) (ovL k)).over 1 = some i := by
        cases e : pos (St k (64 + k) (ovL k)).over 1 with
        | some i => exact ⟨i, rfl⟩
        | none =>
          refine absurd rfl (pos_none.1 e (dnN 1) ?_)
          show dnN 1 ∈ ovL k
          unfold ovL
          rw [List.mem_map]
          exact ⟨1, List.mem_range'_1.2 (by omega), rfl⟩
      rw [hi]
    · rw [decide_eq_false h]
      have hv : pos (St k (64 + k) (ovL k)).over 1 = none := pos_none.2 fun x hx e => by have := (ovL_ids (a := k) hx).2; omega
      rw [hv]

end Go.Proofs.Ytnjfmnombioacaa
