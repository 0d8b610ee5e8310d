/-
  bytes.Clone: its contract.
-/
import Derived.Test.YtbagpckiegpalaaKit
namespace Go.Proofs.Ytbagpckiegpalaa
open Go.RowKit

/-- A slice that reads as l becomes the text l. -/
theorem text_of {w : World} {v : Value} {l : List UInt8} (h : Rd w v l) : (convert 32 9 v).run Try.prog w = .ok (.string ⟨l.toArray⟩) w := by
  rcases h.cases with ⟨rfl, rfl⟩ | ⟨x, cap, rfl, _, _, hc⟩
  · rw [run_convert_bytes_string w 32 9 5 none 0 0 Try.underlying32 Try.underlying5 Try.underlying9]; rfl
  · exact run_convert_bytes_back w 32 9 5 x cap l Try.underlying32 Try.underlying5 Try.underlying9 (fun j hj => by rw [hc j hj]; simp [bv, List.getElem?_eq_getElem hj])

set_option maxHeartbeats 400000 in
theorem clone_any (v : Value) (l : List UInt8) (w : World) (h : Rd w v l) (hl : l.length ≤ 140737488355328) :
    Calls Try.prog 58 #[v] w fun e w' => ∃ v', e = .returned v' ∧ Own w' w.heap.size v' l ∧ Below w.heap.size w w' := by
  have hq : ∀ (w : World) (a : Option Addr) (n c : Nat), (binOp .eql 32 (.slice a n c) (.slice none 0 0)).run Try.prog w = .ok (.bool a.isNone) w := fun w a n c => Lib.run_eql_slice_nil w _ _ a n c 0 0 Try.underlying32
  rcases h.cases with ⟨rfl, rfl⟩ | ⟨x, cap, rfl, h1, h2, hc⟩
  · go_enter Try.func58, Try.ntmps58
    go_wp2
    go_ret
    exact ⟨_, rfl, Own.nil _ _, Below.refl _ _⟩
  · go_enter Try.func58, Try.ntmps58
    go_wp2_with (at_builtin; refine app rfl (.tmp 5) (.tmp 6) rfl w.heap.size (.slice (some ⟨w.heap.size, 0, none⟩) 0 0) _ [] l rfl rfl (Own.empty w _ (Nat.le_refl _)) (h.alloc _) (by simpa using hl) (by simp) ?_; intro ad cp w1 hown hgrow _)
    go_ret
    exact ⟨_, rfl, by simpa using hown, (Own.empty w _ (Nat.le_refl _)).grown ((Below.refl _ _).alloc (Nat.le_refl _) _) hgrow (Nat.le_refl _) (by simp)⟩

end Go.Proofs.Ytbagpckiegpalaa
