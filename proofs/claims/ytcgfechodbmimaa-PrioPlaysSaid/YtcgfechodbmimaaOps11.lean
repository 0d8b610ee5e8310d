/-
  A slice of layer 11's Ops that came in.
-/
import Derived.Test.YtcgfechodbmimaaPrO
import Derived.Deep.Slices
import Derived.OpenShut
namespace Go.Proofs.Ytcgfechodbmimaa
open Go.RowKit Go.ChangeShapes Go.Deep
set_option linter.unusedVariables false
set_option linter.unusedSimpArgs false

/-- What the walk is told of a slice of Ops that came in: for each what is done, and the item. -/
def IsOps11 (w : World) (a : Option Addr) (len cap : Nat) : Prop :=
  (a = none ∧ len = 0 ∧ cap = 0) ∨
  ∃ x, a = some x ∧ len ≤ cap ∧ cap ≤ maxLen ∧ ∀ r, r < len → ∃ (d : Int) (y : It), kw y.1 ∧
    w.cell? (x.add (r * 4)) = some (.int .u8 d) ∧ w.cell? (x.add (r * 4 + 1)) = some (.int .u32 y.1) ∧ w.cell? (x.add (r * 4 + 2)) = some (.int .u8 y.2.1) ∧ w.cell? (x.add (r * 4 + 3)) = some (.int .u32 y.2.2)

set_option maxRecDepth 100000 in
set_option maxHeartbeats 2000000 in
theorem isOps11_of {H : Type} {enc : TypeId × Value → H} {w : World} {base : Nat} {held : Bool} {a : Option Addr} {len cap : Nat} {d : DataW H} {p : List MemPlace}
    (h : DataW.Trod enc Try.prog w base (fun _ => true) held 22 (.slice a len cap) d p) : IsOps11 w a len cap := by
  obtain ⟨fuel, hf⟩ := h
  rcases open_slice Try.underlying22 hf with ⟨hcs, _⟩ | ⟨x, l, c, m, n, D, Pl, hcs, _, hl, hm, hmm, _, hi⟩
  · simp [Value.cells] at hcs
    obtain ⟨rfl, rfl, rfl⟩ := hcs
    exact .inl ⟨rfl, rfl, rfl⟩
  · simp [Value.cells] at hcs
    obtain ⟨rfl, rfl, rfl⟩ := hcs
    refine .inr ⟨x, rfl, hl, hm, fun r hr => ?_⟩
    have h4 : Try.prog.cellsOf 31 = 4 := by kernel_rfl
    have h3 : Try.prog.cellsOf 29 = 3 := by kernel_rfl
    have h_u8 : Try.prog.cellsOf 5 = 1 := by kernel_rfl
    have h_u32 : Try.prog.cellsOf 27 = 1 := by kernel_rfl
    simp only [if_true] at hmm
    obtain ⟨cs', hc, ht'⟩ := hi r (by omega)
    rw [h4] at hc
    obtain ⟨_, hcl, hat⟩ := World.cells?_some hc
    obtain ⟨xs, n', _, _, _, hxl, hfld⟩ := DataW.trod_struct Try.underlying31 ht'
    have g0 : DataW.trod enc Try.prog w base (fun _ => true) held n' 5 ((cs'.drop 0).take (Try.prog.cellsOf 5)) = xs[0]? := hfld 0 _ rfl
    rw [h_u8] at g0
    have g1 : DataW.trod enc Try.prog w base (fun _ => true) held n' 29 ((cs'.drop 1).take (Try.prog.cellsOf 29)) = xs[1]? := hfld 1 _ rfl
    rw [h3] at g1
    match cs', hcl with
    | [c0, c1, c2, c3], _ =>
      match xs, hxl with
      | [u0, u1], _ =>
        obtain ⟨q0, eq0, _, wq0⟩ := DataW.trod_int Try.underlying5 (show _ = some u0 from g0)
        simp at eq0
        subst eq0
        obtain ⟨ys, n2, _, _, _, hyl, hfl2⟩ := DataW.trod_struct Try.underlying29 (show DataW.trod enc Try.prog w base (fun _ => true) held n' 29 [c1, c2, c3] = some u1 from g1)
        have f0 : DataW.trod enc Try.prog w base (fun _ => true) held n2 27 (([c1, c2, c3].drop 0).take (Try.prog.cellsOf 27)) = ys[0]? := hfl2 0 _ rfl
        have f1 : DataW.trod enc Try.prog w base (fun _ => true) held n2 5 (([c1, c2, c3].drop 1).take (Try.prog.cellsOf 5)) = ys[1]? := hfl2 1 _ rfl
        have f2 : DataW.trod enc Try.prog w base (fun _ => true) held n2 27 (([c1, c2, c3].drop 2).take (Try.prog.cellsOf 27)) = ys[2]? := hfl2 2 _ rfl
        rw [h_u32] at f0 f2
        rw [h_u8] at f1
        match ys, hyl with
        | [y0, y1, y2], _ =>
          obtain ⟨d0, e0, _, wf0⟩ := DataW.trod_int Try.underlying27 (show _ = some y0 from f0)
          obtain ⟨d1, e1, _, wf1⟩ := DataW.trod_int Try.underlying5 (show _ = some y1 from f1)
          obtain ⟨d2, e2, _, wf2⟩ := DataW.trod_int Try.underlying27 (show _ = some y2 from f2)
          simp at e0 e1 e2
          subst e0
          subst e1
          subst e2
          have k0 := hat 0 (by omega)
          have k1 := hat 1 (by omega)
          have k2 := hat 2 (by omega)
          have k3 := hat 3 (by omega)
          rw [add_add] at k0 k1 k2 k3
          exact ⟨q0, (d0, d1, d2), wf0, by simpa using k0, by simpa using k1, by simpa using k2, by simpa using k3⟩

theorem IsOps11.bounds {w : World} {a : Option Addr} {len cap : Nat} (h : IsOps11 w a len cap) : len ≤ cap ∧ cap ≤ 9223372036854775807 := by
  rcases h with ⟨rfl, rfl, rfl⟩ | ⟨x, rfl, h1, h2, _⟩
  · exact ⟨Nat.le_refl _, by omega⟩
  · unfold maxLen at h2
    exact ⟨h1, by omega⟩

/-- The r-th Op, in any later world. -/
theorem IsOps11.at {w w' : World} {a : Option Addr} {len cap : Nat} (h : IsOps11 w a len cap) (hb : Below w.heap.size w w') {r : Nat} (hr : r < len) : ∃ (b off : Nat) (d : Int) (y : It), a = some ⟨b, off, none⟩ ∧ kw y.1 ∧
    w'.cell? ⟨b, off + r * 4, none⟩ = some (.int .u8 d) ∧ w'.cell? ⟨b, off + r * 4 + 1, none⟩ = some (.int .u32 y.1) ∧ w'.cell? ⟨b, off + r * 4 + 2, none⟩ = some (.int .u8 y.2.1) ∧ w'.cell? ⟨b, off + r * 4 + 3, none⟩ = some (.int .u32 y.2.2) := by
  rcases h with ⟨_, rfl, _⟩ | ⟨x, rfl, h1, h2, h3⟩
  · omega
  · obtain ⟨d, y, hk, k0, k1, k2, k3⟩ := h3 r hr
    obtain ⟨b, off, spot⟩ := x
    have hs : spot = none := by
      obtain ⟨_, _, _, z0, _⟩ := h3 0 (by omega)
      simpa [Addr.add] using World.cell?_spot z0
    subst hs
    rw [Addr.add_lit] at k0 k1 k2 k3
    have hlt : b < w.heap.size := World.block_lt_of_cell? _ _ k0
    have f : ∀ (j : Nat) (v : Value), w.cell? ⟨b, off + (r * 4 + j), none⟩ = some v → w'.cell? ⟨b, off + r * 4 + j, none⟩ = some v := fun j v hv => by
      rw [Nat.add_assoc]
      exact (hb.cell (p := ⟨b, off + (r * 4 + j), none⟩) hlt).trans hv
    exact ⟨b, off, d, y, rfl, hk, (hb.cell (p := ⟨b, off + r * 4, none⟩) hlt).trans k0, f 1 _ k1, f 2 _ k2, f 3 _ k3⟩

end Go.Proofs.Ytcgfechodbmimaa
