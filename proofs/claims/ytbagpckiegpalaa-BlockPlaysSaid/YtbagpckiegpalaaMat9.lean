/-
  Slices of slices of bytes that came in: their rows, each cut to its first K bytes.
-/
import Derived.Test.YtbagpckiegpalaaKit
import Derived.Deep.Matrix
import Derived.Deep.Slices
namespace Go.Proofs.Ytbagpckiegpalaa
open Go.RowKit

/-- What the walk is told of a slice of slices of bytes that came in. -/
def IsMat (w : World) (a : Option Addr) (len cap : Nat) : Prop :=
  (a = none ∧ len = 0 ∧ cap = 0) ∨
  ∃ x, a = some x ∧ len ≤ cap ∧ cap ≤ maxLen ∧ ∀ r, r < len → ∃ (A : Option Addr) (L C : Nat) (zs : List Int), w.cell? (x.add r) = some (.slice A L C) ∧ IsRow .u8 w A L C zs

theorem isMat_of {H : Type} {enc : TypeId × Value → H} {w : World} {base : Nat} {held : Bool} {a : Option Addr} {len cap : Nat} {d : DataW H} {p : List MemPlace}
    (h : DataW.Trod enc Try.prog w base (fun _ => true) held 79 (.slice a len cap) d p) : IsMat w a len cap := by
  obtain ⟨fuel, hf⟩ := h
  rcases Deep.open_int_rows Try.underlying79 Try.underlying32 Try.underlying5 (by kernel_rfl) (by kernel_rfl) hf with ⟨hcs, _⟩ | ⟨x, l, c, A, L, C, Z, hcs, _, hl, hm, _, hr⟩
  · simp [Value.cells] at hcs
    obtain ⟨rfl, rfl, rfl⟩ := hcs
    exact .inl ⟨rfl, rfl, rfl⟩
  · simp [Value.cells] at hcs
    obtain ⟨rfl, rfl, rfl⟩ := hcs
    refine .inr ⟨x, rfl, hl, hm, fun r hrl => ?_⟩
    obtain ⟨c1, c2, c3, c4, c5, c6, c7⟩ := hr r (by omega)
    refine ⟨A r, L r, C r, Z r, c1, ?_⟩
    cases hA : A r with
    | none =>
      have hC := c6 hA
      exact .inl ⟨rfl, by omega, hC, List.eq_nil_of_length_eq_zero (by omega)⟩
    | some y => exact .inr ⟨y, rfl, c2, c3, c4, fun i hi => (c7 y hA).2 i (by omega), c5⟩

theorem IsMat.bounds {w : World} {a : Option Addr} {len cap : Nat} (h : IsMat w a len cap) : len ≤ cap ∧ cap ≤ 9223372036854775807 := by
  rcases h with ⟨rfl, rfl, rfl⟩ | ⟨x, rfl, h1, h2, _⟩
  · exact ⟨Nat.le_refl _, by omega⟩
  · unfold maxLen at h2
    exact ⟨h1, by omega⟩

/-- A row r of it, as a slice that reads as its first K bytes. -/
def MatRow (w : World) (b off K r : Nat) (t : List UInt8) : Prop :=
  ∃ (A : Option Addr) (L C : Nat), w.cell? ⟨b, off + r, none⟩ = some (.slice A L C) ∧ L ≤ C ∧ C ≤ 9223372036854775807 ∧ t.length = min L K ∧ Rd w (.slice A (min L K) C) t

theorem IsMat.rows {w : World} {a : Option Addr} {len cap : Nat} (h : IsMat w a len cap) (h0 : 0 < len) (K : Nat) :
    ∃ b off, a = some ⟨b, off, none⟩ ∧ b < w.heap.size ∧ ∃ ts : List (List UInt8), ts.length = len ∧ ∀ r t, ts[r]? = some t → MatRow w b off K r t := by
  rcases h with ⟨_, rfl, _⟩ | ⟨x, rfl, h1, h2, hr⟩
  · omega
  · obtain ⟨b, off, spot⟩ := x
    obtain ⟨A0, L0, C0, z0, hc0, _⟩ := hr 0 h0
    have hs : spot = none := by simpa [Addr.add] using World.cell?_spot hc0
    subst hs
    have hb : b < w.heap.size := by
      have := World.block_lt_of_cell? _ _ hc0
      simpa [Addr.add] using this
    refine ⟨b, off, rfl, hb, ?_⟩
    have go : ∀ k, k ≤ len → ∃ ts : List (List UInt8), ts.length = k ∧ ∀ r t, ts[r]? = some t → MatRow w b off K r t := by
      intro k hk
      induction k with
      | zero => exact ⟨[], rfl, fun r t hr => by cases hr⟩
      | succ k ih =>
        obtain ⟨ts, hl, ht⟩ := ih (by omega)
        obtain ⟨A, L, C, zs, hc, hrow⟩ := hr k (by omega)
        obtain ⟨l, hll, hrd⟩ := hrow.rd (min L K) (by omega)
        have hbd := hrow.bounds
        refine ⟨ts ++ [l], by simp [hl], fun r t hr' => ?_⟩
        by_cases e : r < k
        · rw [List.getElem?_append_left (by omega)] at hr'
          exact ht r t hr'
        · have hlt := (List.getElem?_eq_some_iff.1 hr').1
          simp only [List.length_append, List.length_cons, List.length_nil, hl] at hlt
          obtain rfl : r = k := by omega
          rw [List.getElem?_append_right (by omega)] at hr'
          simp only [hl, Nat.sub_self, List.getElem?_cons_zero, Option.some.injEq] at hr'
          subst hr'
          rw [Addr.add_lit] at hc
          exact ⟨A, L, C, hc, hbd.1, hbd.2.1, hll, hrd⟩
    exact go len (Nat.le_refl _)

end Go.Proofs.Ytbagpckiegpalaa
