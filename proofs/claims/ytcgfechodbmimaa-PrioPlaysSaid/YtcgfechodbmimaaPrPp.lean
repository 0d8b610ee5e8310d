/-
  PrioPlays: the heap (nil or there) beside the document's list, from call to call.
-/
import Derived.Test.YtcgfechodbmimaaPrSm
import Derived.Test.YtcgfechodbmimaaOps11
import Derived.Test.YtcgfechodbmimaaPrZ
namespace Go.Proofs.Ytcgfechodbmimaa
open Go.RowKit Go.ChangeMaps
set_option linter.unusedVariables false
set_option linter.unusedSimpArgs false

/-- The two sides agree: at most K items. -/
def PP (w : World) (base : Nat) (nl : Bool) (hp : Option Addr) (u : Value) (l : List It) (K : Nat) : Prop :=
  if nl = true then hp = Option.none ∧ l = [] ∧ RdL w (fun _ => False) u [] else
  ∃ lo b m v q, hp = some ⟨b, 0, Option.none⟩ ∧ RwAt w lo b v m q ∧ HeapN q q.length ∧ l = inOrder q ∧ RdL w (Hb b m v) u l ∧ base ≤ lo ∧ q.length ≤ K

theorem PP.below {w w' : World} {base : Nat} {nl : Bool} {hp : Option Addr} {u : Value} {l : List It} {K : Nat} (h : PP w base nl hp u l K) (hb : Below w.heap.size w w') : PP w' base nl hp u l K := by
  unfold PP at *
  split
  · rw [if_pos (by assumption)] at h
    exact ⟨h.1, h.2.1, h.2.2.below hb⟩
  · rw [if_neg (by assumption)] at h
    obtain ⟨lo, b, m, v, q, h1, h2, h3, h4, h5, h6⟩ := h
    exact ⟨lo, b, m, v, q, h1, h2.below hb, h3, h4, h5.below hb, h6⟩

theorem PP.more {w : World} {base : Nat} {nl : Bool} {hp : Option Addr} {u : Value} {l : List It} {K K' : Nat} (h : PP w base nl hp u l K) (hK : K ≤ K') : PP w base nl hp u l K' := by
  unfold PP at *
  split
  · rw [if_pos (by assumption)] at h
    exact h
  · rw [if_neg (by assumption)] at h
    obtain ⟨lo, b, m, v, q, h1, h2, h3, h4, h5, h6, h7⟩ := h
    exact ⟨lo, b, m, v, q, h1, h2, h3, h4, h5, h6, by omega⟩

theorem PP.rd {w : World} {base : Nat} {nl : Bool} {hp : Option Addr} {u : Value} {l : List It} {K : Nat} (h : PP w base nl hp u l K) : ∃ S, RdL w S u l := by
  unfold PP at h
  split at h
  · obtain ⟨-, rfl, h⟩ := h
    exact ⟨_, h⟩
  · obtain ⟨lo, b, m, v, q, h1, h2, h3, h4, h5, h6⟩ := h
    exact ⟨_, h5⟩

theorem plc_perm {q q' : List It} (h : q.Perm q') (z : Int) : (plc q z).isSome = (plc q' z).isSome := by
  have go : ∀ {a b : List It}, a.Perm b → (plc a z).isSome = true → (plc b z).isSome = true := by
    intro a b hab ha
    cases hb : plc b z with
    | some k => rfl
    | none =>
      have : plc a z = none := plc_none.2 fun x hx => plc_none.1 hb x (hab.mem_iff.1 hx)
      rw [this] at ha
      cases ha
  cases h1 : (plc q z).isSome with
  | true => exact (go h h1).symm
  | false =>
    cases h2 : (plc q' z).isSome with
    | false => rfl
    | true => rw [go h.symm h2] at h1; cases h1

theorem PP.has {w : World} {base : Nat} {nl : Bool} {hp : Option Addr} {u : Value} {l : List It} {K : Nat} (h : PP w base nl hp u l K) {z : Int} (hz : kw z) :
    Calls Try.prog 14 #[.pointer hp, .int .u32 z] w fun e w' => e = .returned (.bool (plc l z).isSome) ∧ w = w' := by
  unfold PP at h
  split at h
  · obtain ⟨rfl, rfl, -⟩ := h
    exact has11_nil w z
  · obtain ⟨lo, b, m, v, q, rfl, h2, h3, rfl, -⟩ := h
    rw [plc_perm (inOrder_perm q) z]
    exact has11_any w lo b m v q z h2 hz

theorem PP.same {w : World} {base : Nat} {nl : Bool} {hp : Option Addr} {u : Value} {l : List It} {K : Nat} (h : PP w base nl hp u l K) :
    Calls Try.prog 13 #[.pointer hp, u] w fun e w' => e = .returned (.bool true) ∧ Below w.heap.size w w' := by
  unfold PP at h
  split at h
  · obtain ⟨rfl, rfl, a, c, rfl, -⟩ := h
    exact same11_zero w Option.none a c ((list11_nil w).mono fun e w' ⟨h1, h2⟩ => ⟨_, h1, by rw [← h2]; exact ⟨World.ownsRow_nil _ _ _ _, Below.refl _ _⟩⟩) (fun W _ => peek11_nil W) (fun W _ => len11_nil W)
  · obtain ⟨lo, b, m, v, q, rfl, h2, h3, rfl, h5, -⟩ := h
    cases hn : q.length with
    | zero =>
      have hq : q = [] := List.length_eq_zero_iff.1 hn
      subst hq
      have he : inOrder [] = [] := List.length_eq_zero_iff.1 (inOrder_len [])
      rw [he] at h5
      obtain ⟨a, c, rfl, -⟩ := h5
      refine same11_zero w _ a c ((list11_any w lo b m v [] h2).mono fun e w' ⟨v', h1, h6, h7⟩ => ⟨v', h1, ?_, h7⟩) (fun W hb => peek11_no W lo b m v (h2.below hb)) (fun W hb => len11_any W lo b m v [] (h2.below hb))
      rw [he] at h6
      exact h6
    | succ n => exact same11_yes w lo b m v q n _ u h2 h3 hn h5

theorem fnd_is (l : List It) (z : Int) : decide (fnd l z ≥ 0) = (plc l z).isSome := by
  unfold fnd
  cases plc l z with
  | none => rfl
  | some k => exact decide_eq_true (Int.natCast_nonneg k)

end Go.Proofs.Ytcgfechodbmimaa
