/-
  One job, and its credit: plainly.
-/
import Derived.Test.YtnjfmnombioacaaJbW
namespace Go.Proofs.Ytnjfmnombioacaa
open Go.RowKit
set_option linter.unusedVariables false
set_option linter.unusedSimpArgs false

def crQ (n : Int) : Note.Q := ⟨0, 1, 1, 0, 1, n, 0⟩
def cnQ : Note.Q := ⟨0, 2, 2, 0, 0, 0, 1⟩
def crR : List Note.R := (newTb 4).rs.set 0 ⟨0, 1, 0, 1, 0, 0⟩
def crT (n c : Int) : Tb := ⟨4, 1, [(1, 0, 1, n, 0, c)], [], crR⟩
def cnT (n c : Int) : Tb := ⟨4, 1, [], [(1, 0, 1, n, 5, c)], crR.set 0 ⟨0, 2, 0, 1, 0, 0⟩⟩
def dnT (n : Int) : Tb := ⟨4, 1, [], [(1, 0, 1, n, 4, n)], crR⟩
theorem cr_1 (n : Int) (h1 : 1 ≤ n) (h2 : n ≤ 256) : (newTb 4).doPlain (crQ n) = ((⟨0, 1, 0, 1, 0, 0⟩, true), crT n 0) := by
  have hr : (crQ n).right = true := by unfold Note.Q.right crQ; simp; omega
  have hs : (newTb 4).change (crQ n) = ((1, 0), { newTb 4 with last := 1, act := [(1, 0, 1, n, 0, 0)] }) := by
    show (newTb 4).submit (crQ n) = _
    unfold Tb.submit
    rw [if_neg (by simp only [crQ]; omega), if_neg (by simp only [crQ, newTb]; omega), if_neg (by simp only [newTb]; decide)]
    rfl
  have hg : (newTb 4).rs.getD (crQ n).cl Note.R.zero = Note.R.zero := rfl
  have ht : turn (crQ n).s Note.R.zero.s = 0 := rfl
  unfold Tb.doPlain
  rw [if_pos hr, hg, ht, if_neg (by simp), if_neg (show ¬ (crQ n).s = Note.R.zero.s by show ¬ (1 : Nat) = 0; decide), hs]
  rfl
theorem cr_credit (n c x : Int) : (crT n c).credit 1 x = if x < 0 ∨ n < x then (1, crT n c) else if x < c then (12, crT n c) else (0, crT n x) := rfl
theorem cr_job (n c : Int) : (crT n c).job 1 = ((1, 0, 1, n, 0, c), true) := rfl
theorem cr_cancel (n c : Int) : (crT n c).doPlain cnQ = ((⟨0, 2, 0, 1, 0, 0⟩, true), cnT n c) := rfl
theorem cr_finish (n c : Int) : (crT n c).finish 1 = (0, dnT n) := rfl
theorem cn_job (n c : Int) : (cnT n c).job 1 = ((1, 0, 1, n, 5, c), true) := rfl
theorem dn_job (n : Int) : (dnT n).job 1 = ((1, 0, 1, n, 4, n), true) := rfl
theorem cn_credit (n c x : Int) : (cnT n c).credit 1 x = (10, cnT n c) := rfl
theorem dn_credit (n x : Int) : (dnT n).credit 1 x = (10, dnT n) := rfl
theorem cn_finish (n c : Int) : (cnT n c).finish 1 = (10, cnT n c) := rfl
theorem dn_finish (n : Int) : (dnT n).finish 1 = (10, dnT n) := rfl

end Go.Proofs.Ytnjfmnombioacaa
