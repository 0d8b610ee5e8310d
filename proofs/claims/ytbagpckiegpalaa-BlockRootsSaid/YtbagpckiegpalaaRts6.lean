/-
  A slice of layer 6's Roots that came in.
-/
import Derived.Test.YtbagpckiegpalaaKit
import Derived.Deep.Slices
import Derived.OpenShut
namespace Go.Proofs.Ytbagpckiegpalaa
open Go.RowKit Go.ChangeShapes Go.Deep
set_option linter.unusedVariables false
set_option linter.unusedSimpArgs false

/-- What the walk is told of a slice of Ops that came in: for each what is done, the node, the tick, the life. -/
def IsRoots6 (w : World) (a : Option Addr) (len cap : Nat) : Prop :=
  (a = none ∧ len = 0 ∧ cap = 0) ∨
  ∃ x, a = some x ∧ len ≤ cap ∧ cap ≤ maxLen ∧ ∀ r, r < len → ∃ (tn en gn an : Nat),
    w.cell? (x.add (r * 4)) = some (.int .u32 (tn : Int)) ∧ tn ≤ 4294967295 ∧ w.cell? (x.add (r * 4 + 1)) = some (.int .u32 (en : Int)) ∧ en ≤ 4294967295 ∧
    w.cell? (x.add (r * 4 + 2)) = some (.int .u32 (gn : Int)) ∧ gn ≤ 4294967295 ∧ w.cell? (x.add (r * 4 + 3)) = some (.int .u8 (an : Int)) ∧ an ≤ 255

set_option maxRecDepth 100000 in
set_option maxHeartbeats 2000000 in
theorem isRoots6_of {H : Type} {enc : TypeId × Value → H} {w : World} {base : Nat} {held : Bool} {a : Option Addr} {len cap : Nat} {d : DataW H} {p : List MemPlace}
    (h : DataW.Trod enc Try.prog w base (fun _ => true) held 66 (.slice a len cap) d p) : IsRoots6 w a len cap := by
  obtain ⟨fuel, hf⟩ := h
  rcases open_slice Try.underlying66 hf with ⟨hcs, _⟩ | ⟨x, l, c, m, n, D, Pl, hcs, _, hl, hm, hmm, _, hi⟩
  · simp [Value.cells] at hcs
    obtain ⟨rfl, rfl, rfl⟩ := hcs
    exact .inl ⟨rfl, rfl, rfl⟩
  · simp [Value.cells] at hcs
    obtain ⟨rfl, rfl, rfl⟩ := hcs
    refine .inr ⟨x, rfl, hl, hm, fun r hr => ?_⟩
    have h3 : Try.prog.cellsOf 36 = 4 := by kernel_rfl
    have h_uint8 : Try.prog.cellsOf 5 = 1 := by kernel_rfl
    have h_uint32 : Try.prog.cellsOf 31 = 1 := by kernel_rfl
    simp only [if_true] at hmm
    obtain ⟨cs', hc, ht'⟩ := hi r (by omega)
    rw [h3] at hc
    obtain ⟨_, hcl, hat⟩ := World.cells?_some hc
    obtain ⟨xs, n', _, _, _, hxl, hfld⟩ := DataW.trod_struct Try.underlying36 ht'
    have g0 : DataW.trod enc Try.prog w base (fun _ => true) held n' 31 ((cs'.drop 0).take (Try.prog.cellsOf 31)) = xs[0]? := hfld 0 _ rfl
    rw [h_uint32] at g0
    have g1 : DataW.trod enc Try.prog w base (fun _ => true) held n' 31 ((cs'.drop 1).take (Try.prog.cellsOf 31)) = xs[1]? := hfld 1 _ rfl
    rw [h_uint32] at g1
    have g2 : DataW.trod enc Try.prog w base (fun _ => true) held n' 31 ((cs'.drop 2).take (Try.prog.cellsOf 31)) = xs[2]? := hfld 2 _ rfl
    rw [h_uint32] at g2
    have g3 : DataW.trod enc Try.prog w base (fun _ => true) held n' 5 ((cs'.drop 3).take (Try.prog.cellsOf 5)) = xs[3]? := hfld 3 _ rfl
    rw [h_uint8] at g3
    match cs', hcl with
    | [c0, c1, c2, c3], _ =>
      match xs, hxl with
      | [u0, u1, u2, u3], _ =>
        obtain ⟨q0, eq0, _, wq0⟩ := DataW.trod_int Try.underlying31 (show _ = some u0 from g0)
        simp at eq0
        subst eq0
        have bq0 := bounds_u32 wq0
        obtain ⟨m0, rfl⟩ := Int.eq_ofNat_of_zero_le (show 0 ≤ q0 by omega)
        obtain ⟨q1, eq1, _, wq1⟩ := DataW.trod_int Try.underlying31 (show _ = some u1 from g1)
        simp at eq1
        subst eq1
        have bq1 := bounds_u32 wq1
        obtain ⟨m1, rfl⟩ := Int.eq_ofNat_of_zero_le (show 0 ≤ q1 by omega)
        obtain ⟨q2, eq2, _, wq2⟩ := DataW.trod_int Try.underlying31 (show _ = some u2 from g2)
        simp at eq2
        subst eq2
        have bq2 := bounds_u32 wq2
        obtain ⟨m2, rfl⟩ := Int.eq_ofNat_of_zero_le (show 0 ≤ q2 by omega)
        obtain ⟨q3, eq3, _, wq3⟩ := DataW.trod_int Try.underlying5 (show _ = some u3 from g3)
        simp at eq3
        subst eq3
        have bq3 := bounds_u8 wq3
        obtain ⟨m3, rfl⟩ := Int.eq_ofNat_of_zero_le (show 0 ≤ q3 by omega)
        have k0 := hat 0 (by omega)
        have k1 := hat 1 (by omega)
        have k2 := hat 2 (by omega)
        have k3 := hat 3 (by omega)
        rw [add_add] at k0 k1 k2 k3
        exact ⟨m0, m1, m2, m3, by simpa using k0, by omega, by simpa using k1, by omega, by simpa using k2, by omega, by simpa using k3, by omega⟩

theorem IsRoots6.bounds {w : World} {a : Option Addr} {len cap : Nat} (h : IsRoots6 w a len cap) : len ≤ cap ∧ cap ≤ 9223372036854775807 := by
  rcases h with ⟨rfl, rfl, rfl⟩ | ⟨x, rfl, h1, h2, _⟩
  · exact ⟨Nat.le_refl _, by omega⟩
  · unfold maxLen at h2
    exact ⟨h1, by omega⟩
/-- The r-th, in any later world. -/
theorem IsRoots6.at {w w' : World} {a : Option Addr} {len cap : Nat} (h : IsRoots6 w a len cap) (hb : Below w.heap.size w w') {r : Nat} (hr : r < len) : ∃ (b off tn en gn an : Nat), a = some ⟨b, off, none⟩ ∧ en < 4294967296 ∧ gn < 4294967296 ∧ an < 256 ∧ b < w.heap.size ∧
    w'.cell? ⟨b, off + r * 4, none⟩ = some (.int .u32 (tn : Int)) ∧ w'.cell? ⟨b, off + r * 4 + 1, none⟩ = some (.int .u32 (en : Int)) ∧ w'.cell? ⟨b, off + r * 4 + 2, none⟩ = some (.int .u32 (gn : Int)) ∧ w'.cell? ⟨b, off + r * 4 + 3, none⟩ = some (.int .u8 (an : Int)) := by
  rcases h with ⟨_, rfl, _⟩ | ⟨x, rfl, h1, h2, h3⟩
  · omega
  · obtain ⟨tn, en, gn, an, k0, hd, k1, he, k2, hn, k3, hl⟩ := h3 r hr
    obtain ⟨b, off, spot⟩ := x
    have hs : spot = none := by
      obtain ⟨_, _, _, _, z0, _⟩ := h3 0 (by omega)
      simpa [Addr.add] using World.cell?_spot z0
    subst hs
    rw [Addr.add_lit] at k0 k1 k2 k3
    have hlt : b < w.heap.size := World.block_lt_of_cell? _ _ k0
    have f : ∀ (j : Nat) (v : Value), w.cell? ⟨b, off + (r * 4 + j), none⟩ = some v → w'.cell? ⟨b, off + r * 4 + j, none⟩ = some v := fun j v hv => by
      rw [Nat.add_assoc]
      exact (hb.cell (p := ⟨b, off + (r * 4 + j), none⟩) hlt).trans hv
    exact ⟨b, off, tn, en, gn, an, rfl, by omega, by omega, by omega, hlt, (hb.cell (p := ⟨b, off + r * 4, none⟩) hlt).trans k0, f 1 _ k1, f 2 _ k2, f 3 _ k3⟩

end Go.Proofs.Ytbagpckiegpalaa
