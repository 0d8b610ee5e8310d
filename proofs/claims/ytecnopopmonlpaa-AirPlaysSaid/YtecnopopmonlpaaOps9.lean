/-
  A slice of Ops that came in.
-/
import Derived.Test.YtecnopopmonlpaaKit
import Derived.Deep.Slices
import Derived.ChangeSlices
import Derived.OpenShut
namespace Go.Proofs.Ytecnopopmonlpaa
open Go.RowKit Go.ChangeShapes Go.Deep

/-- What the walk is told of a slice of Ops that came in: for each its number, its id, whereto, its bytes. -/
def IsOps9 (w : World) (a : Option Addr) (len cap : Nat) : Prop :=
  (a = none ∧ len = 0 ∧ cap = 0) ∨
  ∃ x, a = some x ∧ len ≤ cap ∧ cap ≤ maxLen ∧ ∀ r, r < len → ∃ (d i n : Int) (A : Option Addr) (L C : Nat) (zs : List Int),
    w.cell? (x.add (r * 4)) = some (.int .u8 d) ∧ (Lit.int .u8 d).wf = true ∧ w.cell? (x.add (r * 4 + 1)) = some (.int .u64 i) ∧ (Lit.int .u64 i).wf = true ∧ w.cell? (x.add (r * 4 + 2)) = some (.int .i64 n) ∧ w.cell? (x.add (r * 4 + 3)) = some (.slice A L C) ∧ IsRow .u8 w A L C zs

set_option maxRecDepth 100000 in
theorem isOps9_of {H : Type} {enc : TypeId × Value → H} {w : World} {base : Nat} {held : Bool} {a : Option Addr} {len cap : Nat} {d : DataW H} {p : List MemPlace}
    (h : DataW.Trod enc Try.prog w base (fun _ => true) held 22 (.slice a len cap) d p) : IsOps9 w a len cap := by
  obtain ⟨fuel, hf⟩ := h
  rcases open_slice Try.underlying22 hf with ⟨hcs, _⟩ | ⟨x, l, c, m, n, D, Pl, hcs, _, hl, hm, hmm, _, hi⟩
  · simp [Value.cells] at hcs
    obtain ⟨rfl, rfl, rfl⟩ := hcs
    exact .inl ⟨rfl, rfl, rfl⟩
  · simp [Value.cells] at hcs
    obtain ⟨rfl, rfl, rfl⟩ := hcs
    refine .inr ⟨x, rfl, hl, hm, fun r hr => ?_⟩
    have h3 : Try.prog.cellsOf 36 = 4 := by kernel_rfl
    have h5 : Try.prog.cellsOf 5 = 1 := by kernel_rfl
    have h6 : Try.prog.cellsOf 3 = 1 := by kernel_rfl
    have h8 : Try.prog.cellsOf 31 = 1 := by kernel_rfl
    have h7 : Try.prog.cellsOf 32 = 1 := by kernel_rfl
    have h9 : Try.prog.cellsOf 34 = 2 := by kernel_rfl
    simp only [if_true] at hmm
    obtain ⟨cs', hc, ht'⟩ := hi r (by omega)
    rw [h3] at hc
    obtain ⟨_, hcl, hat⟩ := World.cells?_some hc
    obtain ⟨xs, n', _, _, _, hxl, hfld⟩ := DataW.trod_struct Try.underlying36 ht'
    have f0 : DataW.trod enc Try.prog w base (fun _ => true) held n' 5 ((cs'.drop 0).take (Try.prog.cellsOf 5)) = xs[0]? := hfld 0 _ rfl
    have f1 : DataW.trod enc Try.prog w base (fun _ => true) held n' 31 ((cs'.drop 1).take (Try.prog.cellsOf 31)) = xs[1]? := hfld 1 _ rfl
    have f2 : DataW.trod enc Try.prog w base (fun _ => true) held n' 34 ((cs'.drop 2).take (Try.prog.cellsOf 34)) = xs[2]? := hfld 2 _ rfl
    rw [h5] at f0
    rw [h8] at f1
    rw [h9] at f2
    match cs', hcl with
    | [c0, c1, c2, c3], _ =>
      match xs, hxl with
      | [y0, y1, y2], _ =>
        obtain ⟨d0, e0, _, wf0⟩ := DataW.trod_int Try.underlying5 (show _ = some y0 from f0)
        obtain ⟨d1, e1, _, wf1⟩ := DataW.trod_int Try.underlying31 (show _ = some y1 from f1)
        simp at e0 e1
        subst e0
        subst e1
        obtain ⟨zs2, n2, _, _, _, hzl, hfld2⟩ := DataW.trod_struct Try.underlying34 (show _ = some y2 from f2)
        have f3 : DataW.trod enc Try.prog w base (fun _ => true) held n2 3 ((([c2, c3] : List Value).drop 0).take (Try.prog.cellsOf 3)) = zs2[0]? := hfld2 0 _ rfl
        have f4 : DataW.trod enc Try.prog w base (fun _ => true) held n2 32 ((([c2, c3] : List Value).drop 1).take (Try.prog.cellsOf 32)) = zs2[1]? := hfld2 1 _ rfl
        rw [h6] at f3
        rw [h7] at f4
        match zs2, hzl with
        | [u0, u1], _ =>
          obtain ⟨d2, e2, _, wf2⟩ := DataW.trod_int Try.underlying3 (show _ = some u0 from f3)
          simp at e2
          subst e2
          have c0 := hat 0 (by omega)
          have c1 := hat 1 (by omega)
          have c2' := hat 2 (by omega)
          have c3' := hat 3 (by omega)
          rw [add_add] at c0 c1 c2' c3'
          rcases open_ints Try.underlying32 Try.underlying5 h5 (show _ = some u1 from f4) with ⟨e2, _⟩ | ⟨x2, l2, cp2, zs, e2, _, hl2, hm2, hz2, _, hcell2, hwz2⟩
          · simp at e2
            subst e2
            exact ⟨d0, d1, d2, none, 0, 0, [], by simpa using c0, wf0, by simpa using c1, wf1, by simpa using c2', by simpa using c3', .inl ⟨rfl, rfl, rfl, rfl⟩⟩
          · simp at e2
            subst e2
            exact ⟨d0, d1, d2, some x2, l2, cp2, zs, by simpa using c0, wf0, by simpa using c1, wf1, by simpa using c2', by simpa using c3', .inr ⟨x2, rfl, hl2, hm2, by simpa using hz2, hcell2, hwz2⟩⟩

theorem IsOps9.bounds {w : World} {a : Option Addr} {len cap : Nat} (h : IsOps9 w a len cap) : len ≤ cap ∧ cap ≤ 9223372036854775807 := by
  rcases h with ⟨rfl, rfl, rfl⟩ | ⟨x, rfl, h1, h2, _⟩
  · exact ⟨Nat.le_refl _, by omega⟩
  · unfold maxLen at h2
    exact ⟨h1, by omega⟩

/-- One of them, its bytes cut to the first 40. -/
theorem IsOps9.at {w : World} {a : Option Addr} {len cap : Nat} (h : IsOps9 w a len cap) (j : Nat) (hj : j < len) :
    ∃ b off, a = some ⟨b, off, none⟩ ∧ b < w.heap.size ∧ ∃ (d i : Nat) (n : Int) (A : Option Addr) (L C : Nat) (t : List UInt8),
      w.cell? ⟨b, off + j * 4, none⟩ = some (.int .u8 (d : Int)) ∧ w.cell? ⟨b, off + (j * 4 + 1), none⟩ = some (.int .u64 (i : Int)) ∧ w.cell? ⟨b, off + (j * 4 + 2), none⟩ = some (.int .i64 n) ∧
      w.cell? ⟨b, off + (j * 4 + 3), none⟩ = some (.slice A L C) ∧ d < 256 ∧ (if (40 : Int) < (L : Int) then (40 : Int) else (L : Int)) = (t.length : Int) ∧ t.length ≤ L ∧ L ≤ C ∧ C ≤ 9223372036854775807 ∧ t.length ≤ 40 ∧ Rd w (.slice A t.length C) t := by
  rcases h with ⟨_, rfl, _⟩ | ⟨x, rfl, h1, h2, hr⟩
  · omega
  · obtain ⟨b, off, spot⟩ := x
    obtain ⟨d, i, n, A, L, C, zs, c0, wf0, c1, wf1, c2, c3, hrow⟩ := hr j hj
    obtain ⟨d0, i0, n0, A0, L0, C0, z0, k0, _⟩ := hr 0 (by omega)
    have hs : spot = none := by simpa [Addr.add] using World.cell?_spot k0
    subst hs
    have hb : b < w.heap.size := by
      have := World.block_lt_of_cell? _ _ k0
      simpa [Addr.add] using this
    obtain ⟨l, hll, hrd⟩ := hrow.rd (min L 40) (by omega)
    have hbd := hrow.bounds
    have hd := bounds_u8 wf0
    have hi0 : 0 ≤ i := (bounds_u64 wf1).1
    obtain ⟨dn, rfl⟩ := Int.eq_ofNat_of_zero_le hd.1
    obtain ⟨iN, rfl⟩ := Int.eq_ofNat_of_zero_le hi0
    rw [Addr.add_lit] at c0 c1 c2 c3
    refine ⟨b, off, rfl, hb, dn, iN, n, A, L, C, l, c0, c1, c2, c3, by omega, ?_, by omega, hbd.1, hbd.2.1, by omega, by rw [hll]; exact hrd⟩
    rw [hll]
    split <;> omega

end Go.Proofs.Ytecnopopmonlpaa
