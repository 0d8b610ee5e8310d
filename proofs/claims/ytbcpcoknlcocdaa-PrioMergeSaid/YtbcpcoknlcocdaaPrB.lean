/-
  A map of bools by IDs, of the law's own, and how many IDs it has.
-/
import Derived.Test.YtbcpcoknlcocdaaPrK
namespace Go.Proofs.Ytbcpcoknlcocdaa
open Go.RowKit Go.ChangeMaps
set_option linter.unusedVariables false

/-- Block b is a map that tells F of each ID; it has just c of them. -/
def SnF (w : World) (b c : Nat) (F : Int → Option Bool) : Prop :=
  ∃ (D : DataW Unit) (n : Nat), w.ownsMap Try.prog 27 (plainElem Try.prog 4) b n D ∧ Maps.size D = c ∧ ∀ z, kw z → Maps.has D (.int .u32 z) = (F z).isSome ∧ D.atKey (.int .u32 z) (.lit (.bool false)) = .lit (.bool ((F z).getD false))

theorem tightB {w : World} {b n : Nat} {D : DataW Unit} (h : w.ownsMap Try.prog 27 (plainElem Try.prog 4) b n D) : w.ownsMap Try.prog 27 (plainElem Try.prog 4) b (Maps.size D) D := by
  obtain ⟨es, clock, hb, F, _, rfl⟩ := h
  exact ⟨es, clock, hb, F, by simp [Maps.size, length_sorted], rfl⟩
theorem SnF.new (w : World) : SnF (w.alloc (.map #[] 0)) w.heap.size 0 (fun _ => none) :=
  ⟨.map [], 0, World.ownsMap_made _ _ _ _, rfl, fun z hz => ⟨rfl, rfl⟩⟩
theorem SnF.block {w w' : World} {b c : Nat} {F : Int → Option Bool} (h : SnF w b c F) (hb : w'.heap[b]? = w.heap[b]?) : SnF w' b c F := by
  obtain ⟨D, n, ⟨es, clock, h1, h2, h3, h4⟩, hs, ha⟩ := h
  exact ⟨D, n, ⟨es, clock, hb.trans h1, h2, h3, h4⟩, hs, ha⟩
theorem SnF.ext {w : World} {b c : Nat} {F G : Int → Option Bool} (h : SnF w b c F) (hG : ∀ z, kw z → G z = F z) : SnF w b c G := by
  obtain ⟨D, n, h1, h2, h3⟩ := h
  exact ⟨D, n, h1, h2, fun z hz => by rw [hG z hz]; exact h3 z hz⟩
theorem SnF.lt {w : World} {b c : Nat} {F : Int → Option Bool} (h : SnF w b c F) : b < w.heap.size := by
  obtain ⟨D, n, ⟨es, clock, h1, _⟩, _⟩ := h
  exact (Array.getElem?_eq_some_iff.1 h1).1
theorem SnF.put {w : World} {b c : Nat} {F : Int → Option Bool} (h : SnF w b c F) (hc : c < 1000000) {z : Int} (hz : kw z) (x : Bool) :
    ∃ w', (Instr.mapUpdate 45 (.map (some b)) (.int .u32 z) (.bool x)).run Try.prog w = .ok () w' ∧ SnF w' b (if (F z).isSome then c else c + 1) (fun y => if y = z then some x else F y) ∧ w.mapTurned w' b := by
  obtain ⟨D, n, h1, h2, h3⟩ := h
  have ht := h1.tidy u32_keyed
  obtain ⟨w', hrun, h4, h5⟩ := (tightB h1).store u32_keyed Try.underlying45 (by unfold maxLen; omega) (key_u32 hz) (plainElem_bool Try.underlying4 x)
  refine ⟨w', hrun, ⟨_, _, h4, ?_, fun y hy => ?_⟩, h5⟩
  · rw [Maps.size_put ht, (h3 z hz).1, h2]
  · dsimp only
    by_cases e : y = z
    · subst e
      rw [if_pos rfl, Maps.has_put_same ht.isMap (by exact trivial), Maps.atKey_put_same ht.isMap (by exact trivial)]
      exact ⟨rfl, rfl⟩
    · rw [if_neg e]
      have hne : (Lit.int .u32 y) ≠ .int .u32 z := by intro e2; cases e2; exact e rfl
      rw [Maps.has_put_other hne, Maps.atKey_put_other hne]
      exact h3 y hy
theorem SnF.look {w : World} {b c : Nat} {F : Int → Option Bool} (h : SnF w b c F) {z : Int} (hz : kw z) (hzero : (zeroValue 4).run Try.prog w = .ok (.bool false) w) :
    (Instr.lookup 45 (.map (some b)) (.int .u32 z) false).run Try.prog w = .ok (.bool ((F z).getD false)) w := by
  obtain ⟨D, n, h1, h2, h3⟩ := h
  obtain ⟨v, ps, hrun, hv⟩ := h1.lookup u32_keyed Try.underlying45 hzero (plainElem_bool Try.underlying4 false) (key_u32 hz)
  obtain ⟨x, rfl, hx⟩ := plainElem_bool_inv Try.underlying4 hv
  rw [(h3 z hz).2] at hx
  simp at hx
  rw [hrun, hx.1]
theorem SnF.len {w : World} {b c : Nat} {F : Int → Option Bool} (h : SnF w b c F) : (Builtin.len_ #[45] 3 #[.map (some b)]).run Try.prog w = .ok (.int .i64 (c : Nat)) w := by
  obtain ⟨D, n, h1, h2, h3⟩ := h
  rw [h1.len Try.underlying45 3, h2]

/-- Just the IDs that are there are seen. -/
def seenF (q : List It) : Int → Option Bool := fun z => if (plc q z).isSome then some true else none
theorem plc_mem {q : List It} {z : Int} : (plc q z).isSome = true ↔ ∃ x ∈ q, x.1 = z := by
  cases h : plc q z with
  | none =>
    rw [plc_none] at h
    simp only [Option.isSome_none, Bool.false_eq_true, false_iff]
    rintro ⟨x, hm, e⟩
    exact h x hm e
  | some k =>
    simp only [Option.isSome_some, true_iff]
    by_cases hx : ∃ x ∈ q, x.1 = z
    · exact hx
    · have : plc q z = none := plc_none.2 fun x hm e => hx ⟨x, hm, e⟩
      rw [this] at h; cases h
theorem seen_again {q : List It} {t : Int} (h : (plc q t).isSome = true) (z : Int) : seenF q z = (fun y => if y = t then some true else seenF q y) z := by
  dsimp only
  by_cases e : z = t
  · subst e; rw [if_pos rfl]; unfold seenF; rw [if_pos h]
  · rw [if_neg e]
theorem seen_more {q q' : List It} {x : It} (hp : q'.Perm (x :: q)) (z : Int) : seenF q' z = (fun y => if y = x.1 then some true else seenF q y) z := by
  dsimp only
  unfold seenF
  by_cases e : z = x.1
  · rw [if_pos e, if_pos (plc_mem.2 ⟨x, hp.mem_iff.2 List.mem_cons_self, e.symm⟩)]
  · rw [if_neg e]
    have : (plc q' z).isSome = (plc q z).isSome := by
      rw [Bool.eq_iff_iff, plc_mem, plc_mem]
      constructor
      · rintro ⟨y, hy, ey⟩
        rcases List.mem_cons.1 (hp.mem_iff.1 hy) with rfl | hy
        · exact absurd ey.symm e
        · exact ⟨y, hy, ey⟩
      · rintro ⟨y, hy, ey⟩
        exact ⟨y, hp.mem_iff.2 (List.mem_cons_of_mem _ hy), ey⟩
    rw [this]

end Go.Proofs.Ytbcpcoknlcocdaa
