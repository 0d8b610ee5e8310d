/-
  Layer 15: a slice of Stands that came in; one of them in a variable of its own.
-/
import Derived.Test.YtdongghjchnpbaaRxD
import Derived.Test.YtdongghjchnpbaaVcM
import Derived.Deep.Slices
import Derived.ChangeSlices
import Derived.OpenShut
import Derived.Deep.MidRow
import Derived.Laws.Rows
namespace Go.Proofs.Ytdongghjchnpbaa
open Go.RowKit Go.ChangeShapes Go.Deep
set_option linter.unusedVariables false

/-- What the walk is told of a slice of Stands that came in. -/
def IsSt15 (w : World) (a : Option Addr) (len cap : Nat) : Prop :=
  (a = none ∧ len = 0 ∧ cap = 0) ∨
  ∃ x, a = some x ∧ len ≤ cap ∧ cap ≤ maxLen ∧ ∀ r, r < len → ∃ (d n t : Int) (b : Bool),
    w.cell? (x.add (r * 4)) = some (.int .u8 d) ∧ (Lit.int .u8 d).wf = true ∧ w.cell? (x.add (r * 4 + 1)) = some (.int .u16 n) ∧ (Lit.int .u16 n).wf = true ∧ w.cell? (x.add (r * 4 + 2)) = some (.int .u8 t) ∧ (Lit.int .u8 t).wf = true ∧ w.cell? (x.add (r * 4 + 3)) = some (.bool b)

set_option maxRecDepth 100000 in
theorem isSt15_of {H : Type} {enc : TypeId × Value → H} {w : World} {base : Nat} {held : Bool} {a : Option Addr} {len cap : Nat} {d : DataW H} {p : List MemPlace}
    (h : DataW.Trod enc Try.prog w base (fun _ => true) held 54 (.slice a len cap) d p) : IsSt15 w a len cap := by
  obtain ⟨fuel, hf⟩ := h
  rcases open_slice Try.underlying54 hf with ⟨hcs, _⟩ | ⟨x, l, c, m, n, D, Pl, hcs, _, hl, hm, hmm, _, hi⟩
  · simp [Value.cells] at hcs
    obtain ⟨rfl, rfl, rfl⟩ := hcs
    exact .inl ⟨rfl, rfl, rfl⟩
  · simp [Value.cells] at hcs
    obtain ⟨rfl, rfl, rfl⟩ := hcs
    refine .inr ⟨x, rfl, hl, hm, fun r hr => ?_⟩
    have h3 : Try.prog.cellsOf 74 = 4 := by kernel_rfl
    have h5 : Try.prog.cellsOf 5 = 1 := by kernel_rfl
    have h6 : Try.prog.cellsOf 55 = 1 := by kernel_rfl
    have h7 : Try.prog.cellsOf 4 = 1 := by kernel_rfl
    simp only [if_true] at hmm
    obtain ⟨cs', hc, ht'⟩ := hi r (by omega)
    rw [h3] at hc
    obtain ⟨_, hcl, hat⟩ := World.cells?_some hc
    obtain ⟨xs, n', _, _, _, hxl, hfld⟩ := DataW.trod_struct Try.underlying74 ht'
    have f0 : DataW.trod enc Try.prog w base (fun _ => true) held n' 5 ((cs'.drop 0).take (Try.prog.cellsOf 5)) = xs[0]? := hfld 0 _ rfl
    have f1 : DataW.trod enc Try.prog w base (fun _ => true) held n' 55 ((cs'.drop 1).take (Try.prog.cellsOf 55)) = xs[1]? := hfld 1 _ rfl
    have f2 : DataW.trod enc Try.prog w base (fun _ => true) held n' 5 ((cs'.drop 2).take (Try.prog.cellsOf 5)) = xs[2]? := hfld 2 _ rfl
    have f3 : DataW.trod enc Try.prog w base (fun _ => true) held n' 4 ((cs'.drop 3).take (Try.prog.cellsOf 4)) = xs[3]? := hfld 3 _ rfl
    rw [h5] at f0 f2
    rw [h6] at f1
    rw [h7] at f3
    match cs', hcl with
    | [c0, c1, c2, c3], _ =>
      match xs, hxl with
      | [y0, y1, y2, y3], _ =>
        obtain ⟨d0, e0, _, wf0⟩ := DataW.trod_int Try.underlying5 (show _ = some y0 from f0)
        obtain ⟨d1, e1, _, wf1⟩ := DataW.trod_int Try.underlying55 (show _ = some y1 from f1)
        obtain ⟨d2, e2, _, wf2⟩ := DataW.trod_int Try.underlying5 (show _ = some y2 from f2)
        obtain ⟨d3, e3, _⟩ := DataW.trod_bool Try.underlying4 (show _ = some y3 from f3)
        simp at e0 e1 e2 e3
        subst e0
        subst e1
        subst e2
        subst e3
        have c0 := hat 0 (by omega)
        have c1 := hat 1 (by omega)
        have c2 := hat 2 (by omega)
        have c3 := hat 3 (by omega)
        rw [add_add] at c0 c1 c2 c3
        exact ⟨d0, d1, d2, d3, by simpa using c0, wf0, by simpa using c1, wf1, by simpa using c2, wf2, by simpa using c3⟩

theorem IsSt15.bounds {w : World} {a : Option Addr} {len cap : Nat} (h : IsSt15 w a len cap) : len ≤ cap ∧ cap ≤ 9223372036854775807 := by
  rcases h with ⟨rfl, rfl, rfl⟩ | ⟨x, rfl, h1, h2, _⟩
  · exact ⟨Nat.le_refl _, by omega⟩
  · unfold maxLen at h2
    exact ⟨h1, by omega⟩

abbrev s15cells (d n t : Nat) (b : Bool) : Array Value := #[.int .u8 (d : Nat), .int .u16 (n : Nat), .int .u8 (t : Nat), .bool b]

theorem IsSt15.at {w : World} {a : Option Addr} {len cap : Nat} (h : IsSt15 w a len cap) (j : Nat) (hj : j < len) :
    ∃ b off, a = some ⟨b, off, none⟩ ∧ b < w.heap.size ∧ ∃ (d n t : Nat) (q : Bool), w.rangeAt b (off + j * 4) (s15cells d n t q).toList ∧ d < 256 ∧ n < 65536 ∧ t < 256 := by
  rcases h with ⟨_, rfl, _⟩ | ⟨x, rfl, h1, h2, hr⟩
  · omega
  · obtain ⟨b, off, spot⟩ := x
    obtain ⟨d, n, t, q, c0, wd, c1, wn, c2, wt, c3⟩ := hr j hj
    obtain ⟨_, _, _, _, k0, _⟩ := hr 0 (by omega)
    have hs : spot = none := by simpa [Addr.add] using World.cell?_spot k0
    subst hs
    have hb : b < w.heap.size := by
      have := World.block_lt_of_cell? _ _ k0
      simpa [Addr.add] using this
    have bd := bounds_u8 wd
    have bn := bounds_u16 wn
    have bt := bounds_u8 wt
    obtain ⟨d, rfl⟩ := Int.eq_ofNat_of_zero_le (show 0 ≤ d by omega)
    obtain ⟨n, rfl⟩ := Int.eq_ofNat_of_zero_le (show 0 ≤ n by omega)
    obtain ⟨t, rfl⟩ := Int.eq_ofNat_of_zero_le (show 0 ≤ t by omega)
    rw [Addr.add_lit] at c0 c1 c2 c3
    refine ⟨b, off, rfl, hb, d, n, t, q, fun i v hv => ?_, by omega, by omega, by omega⟩
    have hi : i < 4 := by
      have := (List.getElem?_eq_some_iff.1 hv).1
      simpa using this
    rw [Nat.add_assoc]
    match i, hi, hv with
    | 0, _, e => exact c0.trans e
    | 1, _, e => exact c1.trans e
    | 2, _, e => exact c2.trans e
    | 3, _, e => exact c3.trans e

/-- A Stand, plainly. -/
structure St15 where
  d : Nat
  n : Nat
  t : Nat
  q : Bool

/-- All of them, plainly. -/
def Std15 (w : World) (a : Option Addr) (len : Nat) (S : Nat → St15) : Prop :=
  ∀ j, j < len → ∃ b off, a = some ⟨b, off, none⟩ ∧ b < w.heap.size ∧ w.rangeAt b (off + j * 4) (s15cells (S j).d (S j).n (S j).t (S j).q).toList ∧ (S j).d < 256 ∧ (S j).n < 65536 ∧ (S j).t < 256

theorem IsSt15.all {w : World} {a : Option Addr} {len cap : Nat} (h : IsSt15 w a len cap) : ∃ S, Std15 w a len S := by
  have h1 : ∀ j, ∃ s : St15, j < len → ∃ b off, a = some ⟨b, off, none⟩ ∧ b < w.heap.size ∧ w.rangeAt b (off + j * 4) (s15cells s.d s.n s.t s.q).toList ∧ s.d < 256 ∧ s.n < 65536 ∧ s.t < 256 := by
    intro j
    by_cases hj : j < len
    · obtain ⟨b, off, h1, h2, d, n, t, q, h3⟩ := h.at j hj
      exact ⟨⟨d, n, t, q⟩, fun _ => ⟨b, off, h1, h2, h3⟩⟩
    · exact ⟨⟨0, 0, 0, false⟩, fun hj' => absurd hj' hj⟩
  exact ⟨fun j => Classical.choose (h1 j), fun j hj => Classical.choose_spec (h1 j) hj⟩

theorem Std15.below {w w' : World} {a : Option Addr} {len : Nat} {S : Nat → St15} (h : Std15 w a len S) (hb : Below w.heap.size w w') : Std15 w' a len S := fun j hj => by
  obtain ⟨b, off, h1, h2, h3, h4⟩ := h j hj
  exact ⟨b, off, h1, Nat.lt_of_lt_of_le h2 hb.size, fun i v hv => (hb.cell (p := ⟨b, off + j * 4 + i, none⟩) h2).trans (h3 i v hv), h4⟩

/-- Who may have to go, of the first so many. -/
def cands (S : Nat → St15) (k : Nat) : List Cd := (List.range k).filterMap fun i => if (S i).q then none else some (i + 1, (S i).t)
theorem cands_succ (S : Nat → St15) (k : Nat) : cands S (k + 1) = cands S k ++ (if (S k).q then [] else [(k + 1, (S k).t)]) := by
  unfold cands
  rw [List.range_succ, List.filterMap_append]
  cases h : (S k).q <;> simp [h]
theorem cands_mem {S : Nat → St15} {k : Nat} {c : Cd} : c ∈ cands S k ↔ ∃ i, i < k ∧ (S i).q = false ∧ c = (i + 1, (S i).t) := by
  unfold cands
  rw [List.mem_filterMap]
  constructor
  · rintro ⟨i, hi, h⟩
    rw [List.mem_range] at hi
    cases hq : (S i).q with
    | true => rw [hq] at h; cases h
    | false => rw [hq] at h; exact ⟨i, hi, hq, by simpa using h.symm⟩
  · rintro ⟨i, hi, hq, rfl⟩
    exact ⟨i, List.mem_range.2 hi, by rw [hq]; rfl⟩
theorem cands_len (S : Nat → St15) (k : Nat) : (cands S k).length ≤ k := by
  unfold cands
  exact Nat.le_trans (List.length_filterMap_le _ _) (by simp)

theorem size_st15 : (Try.prog.info? 74).map (·.size) = some 4 := by kernel_rfl

section
variable {w : World} {ops : Array Oper} {rest : List Oper} {o : Oper} {a : Act} {Q : Exit → Act → World → Prop}
theorem st15_fresh (hgd : o.guard = none) (x y : Operand) (ho : o.op = .store 74 x y)
    (W : World) (cs : Array Value) (hx : a.eval x = .pointer (some ⟨W.heap.size, 0, none⟩)) (hy : a.eval y = .agg cs) (hs : cs.size = 4) (h1 : cs.all (·.oneCell') = true)
    (h : ∀ w' : World, w'.heap[W.heap.size]? = some (.cells cs 74 (0, 0)) → Below W.heap.size W w' → wpList Try.prog ops Q rest (a.put o.dst undef) w') :
    wpList Try.prog ops Q (o :: rest) a (W.alloc (.cells #[.int .u8 0, .int .u16 0, .int .u8 0, .bool false] 74)) := by
  have e := heap_alloc_new W (.cells #[.int .u8 0, .int .u16 0, .int .u8 0, .bool false] 74)
  refine wpList_store_row hgd _ x y ho W.heap.size cs hx hy _ _ e (by rw [size_st15, hs]) (by rw [hs]; rfl) h1 ?_
  refine h _ (setRow_heap (W.alloc _) W.heap.size _ _ _ _ e) ?_
  exact ((Below.refl _ _).alloc (Nat.le_refl _) _).trans ⟨rfl, rfl, rfl, by simp, fun k hk => setRow_other _ _ _ _ (by omega)⟩
end

end Go.Proofs.Ytdongghjchnpbaa
