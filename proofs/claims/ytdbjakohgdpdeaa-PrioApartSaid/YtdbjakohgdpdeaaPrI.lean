/-
  A list of items that came in.
-/
import Derived.Test.YtdbjakohgdpdeaaPrO
import Derived.Deep.Slices
namespace Go.Proofs.Ytdbjakohgdpdeaa
open Go.RowKit Go.ChangeShapes Go.WideShapes
set_option linter.unusedVariables false

def IsItems (w : World) (a : Option Addr) (len cap : Nat) : Prop :=
  (a = none ∧ len = 0 ∧ cap = 0) ∨
  ∃ x, a = some x ∧ len ≤ cap ∧ cap ≤ maxLen ∧ ∀ r, r < len → ∃ y : It, kw y.1 ∧ w.cell? (x.add (r * 3)) = some (.int .u32 y.1) ∧ w.cell? (x.add (r * 3 + 1)) = some (.int .u8 y.2.1) ∧ w.cell? (x.add (r * 3 + 2)) = some (.int .u32 y.2.2)

set_option maxRecDepth 100000 in
theorem isItems_of {H : Type} {enc : TypeId × Value → H} {w : World} {base : Nat} {held : Bool} {a : Option Addr} {len cap : Nat} {d : DataW H} {p : List MemPlace}
    (h : DataW.Trod enc Try.prog w base (fun _ => true) held 26 (.slice a len cap) d p) : IsItems w a len cap := by
  obtain ⟨fuel, hf⟩ := h
  rcases Go.Deep.open_slice Try.underlying26 hf with ⟨hcs, _⟩ | ⟨x, l, c, m, n, D, Pl, hcs, _, hl, hm, hmm, _, hi⟩
  · simp [Value.cells] at hcs
    obtain ⟨rfl, rfl, rfl⟩ := hcs
    exact .inl ⟨rfl, rfl, rfl⟩
  · simp [Value.cells] at hcs
    obtain ⟨rfl, rfl, rfl⟩ := hcs
    refine .inr ⟨x, rfl, hl, hm, fun r hr => ?_⟩
    have h3 : Try.prog.cellsOf 29 = 3 := by kernel_rfl
    have h_u32 : Try.prog.cellsOf 27 = 1 := by kernel_rfl
    have h_u8 : Try.prog.cellsOf 5 = 1 := by kernel_rfl
    simp only [if_true] at hmm
    obtain ⟨cs', hc, ht'⟩ := hi r (by omega)
    rw [h3] at hc
    obtain ⟨_, hcl, hat⟩ := World.cells?_some hc
    obtain ⟨xs, n', _, _, _, hxl, hfld⟩ := DataW.trod_struct Try.underlying29 ht'
    have f0 : DataW.trod enc Try.prog w base (fun _ => true) held n' 27 ((cs'.drop 0).take (Try.prog.cellsOf 27)) = xs[0]? := hfld 0 _ rfl
    have f1 : DataW.trod enc Try.prog w base (fun _ => true) held n' 5 ((cs'.drop 1).take (Try.prog.cellsOf 5)) = xs[1]? := hfld 1 _ rfl
    have f2 : DataW.trod enc Try.prog w base (fun _ => true) held n' 27 ((cs'.drop 2).take (Try.prog.cellsOf 27)) = xs[2]? := hfld 2 _ rfl
    rw [h_u32] at f0 f2
    rw [h_u8] at f1
    match cs', hcl with
    | [c0, c1, c2], _ =>
      match xs, hxl with
      | [y0, y1, y2], _ =>
        obtain ⟨d0, e0, _, wf0⟩ := DataW.trod_int Try.underlying27 (show _ = some y0 from f0)
        obtain ⟨d1, e1, _, wf1⟩ := DataW.trod_int Try.underlying5 (show _ = some y1 from f1)
        obtain ⟨d2, e2, _, wf2⟩ := DataW.trod_int Try.underlying27 (show _ = some y2 from f2)
        simp at e0 e1 e2
        subst e0
        subst e1
        subst e2
        have c0 := hat 0 (by omega)
        have c1 := hat 1 (by omega)
        have c2 := hat 2 (by omega)
        rw [Go.Deep.add_add] at c0 c1 c2
        exact ⟨(d0, d1, d2), wf0, by simpa using c0, by simpa using c1, by simpa using c2⟩

/-- Its items, as far as N of them. -/
def RdI (w : World) (a : Option Addr) (L : List It) : Prop :=
  ∀ (j : Nat) (x : It), L[j]? = some x → kw x.1 ∧ ∃ b off, a = some ⟨b, off, none⟩ ∧ b < w.heap.size ∧ w.cell? ⟨b, off + j * 3, none⟩ = some (.int .u32 x.1) ∧ w.cell? ⟨b, off + j * 3 + 1, none⟩ = some (.int .u8 x.2.1) ∧ w.cell? ⟨b, off + j * 3 + 2, none⟩ = some (.int .u32 x.2.2)
theorem RdI.all {w w' : World} {a : Option Addr} {L : List It} (h : RdI w a L) (hb : Below w.heap.size w w') : RdI w' a L := by
  intro j x hj
  obtain ⟨hk, b, off, e, hlt, c0, c1, c2⟩ := h j x hj
  exact ⟨hk, b, off, e, by have := hb.size; omega, (hb.cell (p := ⟨b, off + j * 3, none⟩) hlt).trans c0, (hb.cell (p := ⟨b, off + j * 3 + 1, none⟩) hlt).trans c1, (hb.cell (p := ⟨b, off + j * 3 + 2, none⟩) hlt).trans c2⟩
theorem IsItems.bounds {w : World} {a : Option Addr} {len cap : Nat} (h : IsItems w a len cap) : len ≤ cap ∧ cap ≤ 9223372036854775807 := by
  rcases h with ⟨rfl, rfl, rfl⟩ | ⟨x, rfl, h1, h2, _⟩
  · exact ⟨Nat.le_refl _, by omega⟩
  · unfold maxLen at h2
    exact ⟨h1, by omega⟩
theorem IsItems.rdi {w : World} {a : Option Addr} {len cap : Nat} (h : IsItems w a len cap) (N : Nat) : ∃ L : List It, L.length = min len N ∧ RdI w a L := by
  rcases h with ⟨rfl, rfl, rfl⟩ | ⟨x, rfl, h1, h2, hr⟩
  · exact ⟨[], by simp, fun j x hj => by simp at hj⟩
  · have go : ∀ k, k ≤ len → ∃ L : List It, L.length = k ∧ RdI w (some x) L := by
      intro k hk
      induction k with
      | zero => exact ⟨[], rfl, fun j y hj => by simp at hj⟩
      | succ k ih =>
        obtain ⟨L, hl, hL⟩ := ih (by omega)
        obtain ⟨y', hk', c0, c1, c2⟩ := hr k (by omega)
        refine ⟨L ++ [y'], by simp [hl], fun j y hj => ?_⟩
        by_cases e : j < k
        · rw [List.getElem?_append_left (by omega)] at hj
          exact hL j y hj
        · have hlt := (List.getElem?_eq_some_iff.1 hj).1
          simp only [List.length_append, List.length_cons, List.length_nil, hl] at hlt
          obtain rfl : j = k := by omega
          rw [List.getElem?_append_right (by omega)] at hj
          simp only [hl, Nat.sub_self, List.getElem?_cons_zero, Option.some.injEq] at hj
          subst hj
          obtain ⟨b, off, spot⟩ := x
          obtain ⟨_, _, z0, _⟩ := hr 0 (by omega)
          have hs : spot = none := by simpa [Addr.add] using World.cell?_spot z0
          subst hs
          have hb : b < w.heap.size := by
            have := World.block_lt_of_cell? _ _ z0
            simpa [Addr.add] using this
          rw [Addr.add_lit] at c0 c1 c2
          exact ⟨hk', b, off, rfl, hb, c0, by rw [Nat.add_assoc]; exact c1, by rw [Nat.add_assoc]; exact c2⟩
    obtain ⟨L, hl, hL⟩ := go (min len N) (by omega)
    exact ⟨L, hl, hL⟩

end Go.Proofs.Ytdbjakohgdpdeaa
