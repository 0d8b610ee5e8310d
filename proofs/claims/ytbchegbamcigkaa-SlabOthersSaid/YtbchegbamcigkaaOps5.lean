/-
  A slice of Ops that came in.
-/
import Derived.Test.YtbchegbamcigkaaKit
import Derived.Deep.Slices
import Derived.ChangeSlices
import Derived.OpenShut
namespace Go.Proofs.Ytbchegbamcigkaa
open Go.RowKit Go.ChangeShapes Go.Deep

/-- What the walk is told of a slice of Ops that came in: for each its number, its int, its bytes. -/
def IsOps (w : World) (a : Option Addr) (len cap : Nat) : Prop :=
  (a = none ∧ len = 0 ∧ cap = 0) ∨
  ∃ x, a = some x ∧ len ≤ cap ∧ cap ≤ maxLen ∧ ∀ r, r < len → ∃ (d n : Int) (A : Option Addr) (L C : Nat) (zs : List Int),
    w.cell? (x.add (r * 3)) = some (.int .u8 d) ∧ (Lit.int .u8 d).wf = true ∧ w.cell? (x.add (r * 3 + 1)) = some (.int .i64 n) ∧ (Lit.int .i64 n).wf = true ∧ w.cell? (x.add (r * 3 + 2)) = some (.slice A L C) ∧ IsRow .u8 w A L C zs

set_option maxRecDepth 100000 in
theorem isOps_of {H : Type} {enc : TypeId × Value → H} {w : World} {base : Nat} {held : Bool} {a : Option Addr} {len cap : Nat} {d : DataW H} {p : List MemPlace}
    (h : DataW.Trod enc Try.prog w base (fun _ => true) held 22 (.slice a len cap) d p) : IsOps w a len cap := by
  obtain ⟨fuel, hf⟩ := h
  rcases open_slice Try.underlying22 hf with ⟨hcs, _⟩ | ⟨x, l, c, m, n, D, Pl, hcs, _, hl, hm, hmm, _, hi⟩
  · simp [Value.cells] at hcs
    obtain ⟨rfl, rfl, rfl⟩ := hcs
    exact .inl ⟨rfl, rfl, rfl⟩
  · simp [Value.cells] at hcs
    obtain ⟨rfl, rfl, rfl⟩ := hcs
    refine .inr ⟨x, rfl, hl, hm, fun r hr => ?_⟩
    have h3 : Try.prog.cellsOf 33 = 3 := by kernel_rfl
    have h5 : Try.prog.cellsOf 5 = 1 := by kernel_rfl
    have h6 : Try.prog.cellsOf 3 = 1 := by kernel_rfl
    have h7 : Try.prog.cellsOf 31 = 1 := by kernel_rfl
    simp only [if_true] at hmm
    obtain ⟨cs', hc, ht'⟩ := hi r (by omega)
    rw [h3] at hc
    obtain ⟨_, hcl, hat⟩ := World.cells?_some hc
    obtain ⟨xs, n', _, _, _, hxl, hfld⟩ := DataW.trod_struct Try.underlying33 ht'
    have f0 : DataW.trod enc Try.prog w base (fun _ => true) held n' 5 ((cs'.drop 0).take (Try.prog.cellsOf 5)) = xs[0]? := hfld 0 _ rfl
    have f1 : DataW.trod enc Try.prog w base (fun _ => true) held n' 3 ((cs'.drop 1).take (Try.prog.cellsOf 3)) = xs[1]? := hfld 1 _ rfl
    have f2 : DataW.trod enc Try.prog w base (fun _ => true) held n' 31 ((cs'.drop 2).take (Try.prog.cellsOf 31)) = xs[2]? := hfld 2 _ rfl
    rw [h5] at f0
    rw [h6] at f1
    rw [h7] at f2
    match cs', hcl with
    | [c0, c1, c2], _ =>
      match xs, hxl with
      | [y0, y1, y2], _ =>
        obtain ⟨d0, e0, _, wf0⟩ := DataW.trod_int Try.underlying5 (show _ = some y0 from f0)
        obtain ⟨d1, e1, _, wf1⟩ := DataW.trod_int Try.underlying3 (show _ = some y1 from f1)
        simp at e0 e1
        subst e0
        subst e1
        have c0 := hat 0 (by omega)
        have c1 := hat 1 (by omega)
        have c2' := hat 2 (by omega)
        rw [add_add] at c0 c1 c2'
        rcases open_ints Try.underlying31 Try.underlying5 h5 (show _ = some y2 from f2) with ⟨e2, _⟩ | ⟨x2, l2, cp2, zs, e2, _, hl2, hm2, hz2, _, hcell2, hwz2⟩
        · simp at e2
          subst e2
          exact ⟨d0, d1, none, 0, 0, [], by simpa using c0, wf0, by simpa using c1, wf1, by simpa using c2', .inl ⟨rfl, rfl, rfl, rfl⟩⟩
        · simp at e2
          subst e2
          exact ⟨d0, d1, some x2, l2, cp2, zs, by simpa using c0, wf0, by simpa using c1, wf1, by simpa using c2', .inr ⟨x2, rfl, hl2, hm2, by simpa using hz2, hcell2, hwz2⟩⟩

theorem IsOps.bounds {w : World} {a : Option Addr} {len cap : Nat} (h : IsOps w a len cap) : len ≤ cap ∧ cap ≤ 9223372036854775807 := by
  rcases h with ⟨rfl, rfl, rfl⟩ | ⟨x, rfl, h1, h2, _⟩
  · exact ⟨Nat.le_refl _, by omega⟩
  · unfold maxLen at h2
    exact ⟨h1, by omega⟩

/-- One of them: its number, its int, its bytes. -/
structure OpW where
  d : Nat
  n : Int
  t : List UInt8

/-- The Ops, each with its bytes cut to the first M. -/
theorem IsOps.list {w : World} {a : Option Addr} {len cap : Nat} (h : IsOps w a len cap) (h0 : 0 < len) (M : Nat) :
    ∃ b off, a = some ⟨b, off, none⟩ ∧ b < w.heap.size ∧ ∀ k, k ≤ len → ∃ os : List OpW, os.length = k ∧ ∀ r, r < k → ∃ (o : OpW) (A : Option Addr) (L C : Nat), os[r]? = some o ∧
      w.cell? ⟨b, off + r * 3, none⟩ = some (.int .u8 (o.d : Int)) ∧ o.d < 256 ∧ w.cell? ⟨b, off + (r * 3 + 1), none⟩ = some (.int .i64 o.n) ∧ -9223372036854775808 ≤ o.n ∧ o.n < 9223372036854775808 ∧
      w.cell? ⟨b, off + (r * 3 + 2), none⟩ = some (.slice A L C) ∧ L ≤ C ∧ C ≤ 9223372036854775807 ∧ o.t.length = min L M ∧ Rd w (.slice A (min L M) C) o.t := by
  rcases h with ⟨_, rfl, _⟩ | ⟨x, rfl, h1, h2, hr⟩
  · omega
  · obtain ⟨b, off, spot⟩ := x
    obtain ⟨d0, n0, A0, L0, C0, z0, hc0, _, _, _, hc2, _⟩ := hr 0 h0
    have hs : spot = none := by simpa [Addr.add] using World.cell?_spot hc0
    subst hs
    have hb : b < w.heap.size := by
      have := World.block_lt_of_cell? _ _ hc0
      simpa [Addr.add] using this
    refine ⟨b, off, rfl, hb, fun k hk => ?_⟩
    induction k with
    | zero => exact ⟨[], rfl, fun r hr => absurd hr (by omega)⟩
    | succ k ih =>
      obtain ⟨os, hl, hos⟩ := ih (by omega)
      obtain ⟨d, n, A, L, C, zs, c0, wf0, c1, wf1, c2, hrow⟩ := hr k (by omega)
      obtain ⟨l, hll, hrd⟩ := hrow.rd (min L M) (by omega)
      have hbd := hrow.bounds
      have hd : 0 ≤ d ∧ d < 256 := by
        have := bounds_u8 wf0
        omega
      have hn := bounds_i64 wf1
      obtain ⟨dn, rfl⟩ := Int.eq_ofNat_of_zero_le hd.1
      rw [Addr.add_lit] at c0 c1 c2
      refine ⟨os ++ [⟨dn, n, l⟩], by simp [hl], fun r hr' => ?_⟩
      by_cases e : r < k
      · obtain ⟨o, A', L', C', g1, g2⟩ := hos r e
        exact ⟨o, A', L', C', by rw [List.getElem?_append_left (by omega)]; exact g1, g2⟩
      · obtain rfl : r = k := by omega
        exact ⟨⟨dn, n, l⟩, A, L, C, by rw [List.getElem?_append_right (by omega), hl]; simp, c0, by simp only; omega, c1, by simp only; omega, by simp only; omega, c2, hbd.1, hbd.2.1, hll, hrd⟩

end Go.Proofs.Ytbchegbamcigkaa
