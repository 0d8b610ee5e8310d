/-
  A map of bools that the law makes itself, keyed by anything that is a key: what it tells of each; pairs of ints.
-/
import Derived.Test.YtlobnipeplnodaaMapB
import Derived.DeepKeys4
namespace Go.Proofs.Ytlobnipeplnodaa
open Go.RowKit
set_option linter.unusedVariables false

/-- Block b is a map that tells S of each key. -/
def SetP (k e : TypeId) (w : World) (b n : Nat) (S : Value → Bool) : Prop :=
  ∃ D : DataW Unit, w.ownsMap Try.prog k (plainElem Try.prog e) b n D ∧ Maps.IsMap D ∧ ∀ v l, keyOf Try.prog k v = some l → D.atKey l (.lit (.bool false)) = .lit (.bool (S v))

theorem SetP.new (k e : TypeId) (w : World) : SetP k e (w.alloc (.map #[] 0)) w.heap.size 0 (fun _ => false) :=
  ⟨.map [], World.ownsMap_made _ _ _ _, ⟨_, rfl⟩, fun _ _ _ => rfl⟩

theorem SetP.block {k e : TypeId} {w w' : World} {b n : Nat} {S : Value → Bool} (h : SetP k e w b n S) (hb : w'.heap[b]? = w.heap[b]?) : SetP k e w' b n S := by
  obtain ⟨D, ⟨es, clock, h1, h2, h3, h4⟩, hm, ha⟩ := h
  exact ⟨D, ⟨es, clock, hb.trans h1, h2, h3, h4⟩, hm, ha⟩

theorem SetP.lt {k e : TypeId} {w : World} {b n : Nat} {S : Value → Bool} (h : SetP k e w b n S) : b < w.heap.size := by
  obtain ⟨D, ⟨es, clock, h1, h2, h3, h4⟩, hm, ha⟩ := h
  exact (Array.getElem?_eq_some_iff.1 h1).1

section
variable {w : World} {ops : Array Oper} {rest : List Oper} {o : Oper} {a : Act} {Q : Exit → Act → World → Prop}

theorem setp_look (hg : o.guard = none) (m x : Operand) (t k e : TypeId) (hop : o.op = Op.lookup t m x false) (ht : Try.prog.underlying t = some (.map k e)) (hk : Maps.Keyed Try.prog k) (he : Try.prog.underlying e = some .bool) (hz : ∀ w, (zeroValue e).run Try.prog w = .ok (.bool false) w)
    (b n : Nat) (S : Value → Bool) (z : Value) (l : Lit) (hm : a.eval m = .map (some b)) (hx : a.eval x = z) (hkz : keyOf Try.prog k z = some l) (h : SetP k e w b n S)
    (hK : wpList Try.prog ops Q rest (a.put o.dst (.bool (S z))) w) : wpList Try.prog ops Q (o :: rest) a w := by
  refine wpList_plain hg fun K' hK' => ?_
  obtain ⟨D, hown, hmap, hat⟩ := h
  obtain ⟨v, ps, hrun, hv⟩ := hown.lookup hk ht (hz _) (plainElem_bool he false) hkz
  obtain ⟨c, rfl, hc⟩ := plainElem_bool_inv he hv
  simp only [Prod.mk.injEq] at hc
  have e1 := (hat z l hkz).symm.trans hc.1
  have e2 : S z = c := by
    have := e1
    simp at this
    exact this
  unfold Oper.wp
  simp [execOp, hop, hm, hx, hrun, Result.andThen]
  rw [← e2]
  exact hK' _ _ hK

theorem setp_put (hg : o.guard = none) (m x v : Operand) (t k e : TypeId) (hop : o.op = Op.mapUpdate t m x v) (ht : Try.prog.underlying t = some (.map k e)) (hk : Maps.Keyed Try.prog k) (he : Try.prog.underlying e = some .bool)
    (b n : Nat) (S : Value → Bool) (z : Value) (l : Lit) (c : Bool) (hm : a.eval m = .map (some b)) (hx : a.eval x = z) (hv : a.eval v = .bool c) (hkz : keyOf Try.prog k z = some l) (h : SetP k e w b n S) (hn : n < maxLen) (S2 : Value → Bool) (hS2 : S2 z = c) (hS3 : ∀ y, y ≠ z → S2 y = S y)
    (hK : ∀ w', SetP k e w' b (n + 1) S2 → w.grownBy w' (some b) → wpList Try.prog ops Q rest (a.put o.dst undef) w') : wpList Try.prog ops Q (o :: rest) a w := by
  obtain ⟨D, hown, hmap, hat⟩ := h
  refine wpList_mapUpdate_own w hg m x v t hop k e hk ht _ b n D hm hown hn z (.bool c) l hx hv hkz (.lit (.bool c)) [] (plainElem_bool he c) ?_
  intro w' h1 h2
  refine hK w' ⟨_, h1, ?_, fun y ly hy => ?_⟩ h2
  · obtain ⟨es, rfl⟩ := hmap
    exact ⟨_, rfl⟩
  · by_cases e1 : ly = l
    · subst e1
      have e2 := hk.inj hy hkz
      subst e2
      rw [Maps.atKey_put_same hmap (hk.key hkz), hS2]
    · rw [Maps.atKey_put_other e1, hS3 y (fun e2 => e1 (by subst e2; exact Option.some.inj (hy.symm.trans hkz)))]
      exact hat y ly hy
end

theorem Try.laidOut2 : laidOutB Try.prog = true := by kernel_rfl
theorem pair_law : Maps.Keyed Try.prog 64 := Maps.Keyed.of_law (deep_law_laid Try.laidOut2 (m := 2) (by omega) (of_decide_eq_true (by kernel_rfl)) (by kernel_rfl) (by rw [Try.underlying64]))
def pairV (r x : Nat) : Value := .agg #[.int .i64 (r : Int), .int .i64 (x : Int)]
theorem pairV_inj {r x r' x' : Nat} (h : pairV r x = pairV r' x') : r = r' ∧ x = x' := by
  unfold pairV at h
  simp at h
  omega

theorem pair_cells : Try.prog.cellsOf 64 = 2 := by kernel_rfl
theorem int_cells : Try.prog.cellsOf 3 = 1 := by kernel_rfl
theorem ty_size : ∃ n, Try.prog.types.size = n + 1 := ⟨Try.prog.types.size - 1, by have : 0 < Try.prog.types.size := of_decide_eq_true (by kernel_rfl); omega⟩
theorem pair_kt : Try.prog.keyType 64 = true := by kernel_rfl
theorem pair_key (r x : Nat) (hr : r < 1000000) (hx : x < 1000000) : ∃ l, keyOf Try.prog 64 (pairV r x) = some l := by
  have w1 := wf_row hr
  have w2 := wf_row hx
  obtain ⟨n, hn⟩ := ty_size
  have hf : (pairV r x).formed Try.prog 64 = true := by unfold pairV; simp [Value.formed, Try.underlying64, pair_cells]
  unfold keyOf
  rw [Try.underlying64, hn]
  simp only [hf]
  unfold pairV
  simp [Program.keyLits, Try.underlying64, Try.underlying3, int_cells, pair_cells, pair_kt, Value.cells, show List.range 2 = [0, 1] from rfl, w1, w2]

end Go.Proofs.Ytlobnipeplnodaa
