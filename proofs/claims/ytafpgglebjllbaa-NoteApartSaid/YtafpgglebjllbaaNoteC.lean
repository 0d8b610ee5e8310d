/-
  What the readers hand in: how each field is taken: contracts.
-/
import Derived.Test.YtafpgglebjllbaaNoteF
namespace Go.Proofs.Ytafpgglebjllbaa
open Go.RowKit
open Note (K St stepK run)

theorem FEnd.cell0 {w0 w : World} {base bf be : Nat} {st0 : St} {ks : List K} {ns : List Nat} {b : Option (List UInt8)} (h : FEnd w0 w base bf be st0 ks ns b) : w.cell? ⟨bf, 0, none⟩ = some (.pointer (some ⟨be, 0, none⟩)) := by
  obtain ⟨v, st1, st, h1, _⟩ := h
  exact h1.cell0

/-- The same eye and fields, when another block has been written. -/
theorem FldAt.other {w w' : World} {base bf be g : Nat} {v : Value} {st : St} (h : FldAt w base bf be v st) (hK : Keeps (fun k => k = g) w w') (h1 : g ≠ bf) (h2 : g ≠ be) (h3 : v.ownBlock ≠ some g) : FldAt w' base bf be v st :=
  ⟨(hK.block bf h.lt (Ne.symm h1)).trans h.1, EyeAt.keeps (S := fun k => k = g) h.2.1 hK (fun k hk e => by
    subst e
    rcases hk with hk | hk
    · exact h2 hk
    · exact h3 hk), h.2.2⟩

theorem FTr.size {w0 w : World} {base bf be : Nat} {st0 : St} {ks : List K} {ns : List Nat} (h : FTr w0 w base bf be st0 ks ns) : w0.heap.size ≤ w.heap.size := by
  obtain ⟨v, st, _, _, hk, _⟩ := h
  exact hk.size

theorem FTr.old {w0 w : World} {base bf be g : Nat} {st0 : St} {ks : List K} {ns : List Nat} {C : Option Obj} (h : FTr w0 w base bf be st0 ks ns) (hg : w0.heap[g]? = C) (hl : g < w0.heap.size) (h1 : g ≠ bf) (h2 : g ≠ be) : w.heap[g]? = C := by
  obtain ⟨v, st, _, _, hk, _⟩ := h
  rw [hk.block g hl (fun e => by rcases e with e | e <;> omega)]
  exact hg

theorem FEnd.old {w0 w : World} {base bf be g : Nat} {st0 : St} {ks : List K} {ns : List Nat} {b : Option (List UInt8)} {C : Option Obj} (h : FEnd w0 w base bf be st0 ks ns b) (hg : w0.heap[g]? = C) (hl : g < w0.heap.size) (h1 : g ≠ bf) (h2 : g ≠ be) : w.heap[g]? = C := by
  obtain ⟨v, st1, st, _, _, _, hk, _⟩ := h
  rw [hk.block g hl (fun e => by rcases e with e | e <;> omega)]
  exact hg

theorem stored13N {w : World} {g : Nat} {T : TypeId} {z0 z1 z2 z3 z4 z5 z6 z7 z8 z9 z10 z11 z12 : Value} (h0 : w.heap[g]? = some (.cells #[z0, z1, z2, z3, z4, z5, z6, z7, z8, z9, z10, z11, z12] T (0, 0))) (v0 v1 v2 v3 v4 v5 v6 v7 v8 v9 v10 v11 v12 : Value) : (((((((((((((w.setCell ⟨g, 0, none⟩ v0).setCell ⟨g, 1, none⟩ v1).setCell ⟨g, 2, none⟩ v2).setCell ⟨g, 3, none⟩ v3).setCell ⟨g, 4, none⟩ v4).setCell ⟨g, 5, none⟩ v5).setCell ⟨g, 6, none⟩ v6).setCell ⟨g, 7, none⟩ v7).setCell ⟨g, 8, none⟩ v8).setCell ⟨g, 9, none⟩ v9).setCell ⟨g, 10, none⟩ v10).setCell ⟨g, 11, none⟩ v11).setCell ⟨g, 12, none⟩ v12).heap[g]? = some (.cells #[v0, v1, v2, v3, v4, v5, v6, v7, v8, v9, v10, v11, v12] T (0, 0)) := by
  have h1 : (w.setCell ⟨g, 0, none⟩ v0).heap[g]? = some (.cells #[v0, z1, z2, z3, z4, z5, z6, z7, z8, z9, z10, z11, z12] T (0, 0)) := heap_setCell_same _ _ _ _ _ _ h0
  have h2 : ((w.setCell ⟨g, 0, none⟩ v0).setCell ⟨g, 1, none⟩ v1).heap[g]? = some (.cells #[v0, v1, z2, z3, z4, z5, z6, z7, z8, z9, z10, z11, z12] T (0, 0)) := heap_setCell_same _ _ _ _ _ _ h1
  have h3 : (((w.setCell ⟨g, 0, none⟩ v0).setCell ⟨g, 1, none⟩ v1).setCell ⟨g, 2, none⟩ v2).heap[g]? = some (.cells #[v0, v1, v2, z3, z4, z5, z6, z7, z8, z9, z10, z11, z12] T (0, 0)) := heap_setCell_same _ _ _ _ _ _ h2
  have h4 : ((((w.setCell ⟨g, 0, none⟩ v0).setCell ⟨g, 1, none⟩ v1).setCell ⟨g, 2, none⟩ v2).setCell ⟨g, 3, none⟩ v3).heap[g]? = some (.cells #[v0, v1, v2, v3, z4, z5, z6, z7, z8, z9, z10, z11, z12] T (0, 0)) := heap_setCell_same _ _ _ _ _ _ h3
  have h5 : (((((w.setCell ⟨g, 0, none⟩ v0).setCell ⟨g, 1, none⟩ v1).setCell ⟨g, 2, none⟩ v2).setCell ⟨g, 3, none⟩ v3).setCell ⟨g, 4, none⟩ v4).heap[g]? = some (.cells #[v0, v1, v2, v3, v4, z5, z6, z7, z8, z9, z10, z11, z12] T (0, 0)) := heap_setCell_same _ _ _ _ _ _ h4
  have h6 : ((((((w.setCell ⟨g, 0, none⟩ v0).setCell ⟨g, 1, none⟩ v1).setCell ⟨g, 2, none⟩ v2).setCell ⟨g, 3, none⟩ v3).setCell ⟨g, 4, none⟩ v4).setCell ⟨g, 5, none⟩ v5).heap[g]? = some (.cells #[v0, v1, v2, v3, v4, v5, z6, z7, z8, z9, z10, z11, z12] T (0, 0)) := heap_setCell_same _ _ _ _ _ _ h5
  have h7 : (((((((w.setCell ⟨g, 0, none⟩ v0).setCell ⟨g, 1, none⟩ v1).setCell ⟨g, 2, none⟩ v2).setCell ⟨g, 3, none⟩ v3).setCell ⟨g, 4, none⟩ v4).setCell ⟨g, 5, none⟩ v5).setCell ⟨g, 6, none⟩ v6).heap[g]? = some (.cells #[v0, v1, v2, v3, v4, v5, v6, z7, z8, z9, z10, z11, z12] T (0, 0)) := heap_setCell_same _ _ _ _ _ _ h6
  have h8 : ((((((((w.setCell ⟨g, 0, none⟩ v0).setCell ⟨g, 1, none⟩ v1).setCell ⟨g, 2, none⟩ v2).setCell ⟨g, 3, none⟩ v3).setCell ⟨g, 4, none⟩ v4).setCell ⟨g, 5, none⟩ v5).setCell ⟨g, 6, none⟩ v6).setCell ⟨g, 7, none⟩ v7).heap[g]? = some (.cells #[v0, v1, v2, v3, v4, v5, v6, v7, z8, z9, z10, z11, z12] T (0, 0)) := heap_setCell_same _ _ _ _ _ _ h7
  have h9 : (((((((((w.setCell ⟨g, 0, none⟩ v0).setCell ⟨g, 1, none⟩ v1).setCell ⟨g, 2, none⟩ v2).setCell ⟨g, 3, none⟩ v3).setCell ⟨g, 4, none⟩ v4).setCell ⟨g, 5, none⟩ v5).setCell ⟨g, 6, none⟩ v6).setCell ⟨g, 7, none⟩ v7).setCell ⟨g, 8, none⟩ v8).heap[g]? = some (.cells #[v0, v1, v2, v3, v4, v5, v6, v7, v8, z9, z10, z11, z12] T (0, 0)) := heap_setCell_same _ _ _ _ _ _ h8
  have h10 : ((((((((((w.setCell ⟨g, 0, none⟩ v0).setCell ⟨g, 1, none⟩ v1).setCell ⟨g, 2, none⟩ v2).setCell ⟨g, 3, none⟩ v3).setCell ⟨g, 4, none⟩ v4).setCell ⟨g, 5, none⟩ v5).setCell ⟨g, 6, none⟩ v6).setCell ⟨g, 7, none⟩ v7).setCell ⟨g, 8, none⟩ v8).setCell ⟨g, 9, none⟩ v9).heap[g]? = some (.cells #[v0, v1, v2, v3, v4, v5, v6, v7, v8, v9, z10, z11, z12] T (0, 0)) := heap_setCell_same _ _ _ _ _ _ h9
  have h11 : (((((((((((w.setCell ⟨g, 0, none⟩ v0).setCell ⟨g, 1, none⟩ v1).setCell ⟨g, 2, none⟩ v2).setCell ⟨g, 3, none⟩ v3).setCell ⟨g, 4, none⟩ v4).setCell ⟨g, 5, none⟩ v5).setCell ⟨g, 6, none⟩ v6).setCell ⟨g, 7, none⟩ v7).setCell ⟨g, 8, none⟩ v8).setCell ⟨g, 9, none⟩ v9).setCell ⟨g, 10, none⟩ v10).heap[g]? = some (.cells #[v0, v1, v2, v3, v4, v5, v6, v7, v8, v9, v10, z11, z12] T (0, 0)) := heap_setCell_same _ _ _ _ _ _ h10
  have h12 : ((((((((((((w.setCell ⟨g, 0, none⟩ v0).setCell ⟨g, 1, none⟩ v1).setCell ⟨g, 2, none⟩ v2).setCell ⟨g, 3, none⟩ v3).setCell ⟨g, 4, none⟩ v4).setCell ⟨g, 5, none⟩ v5).setCell ⟨g, 6, none⟩ v6).setCell ⟨g, 7, none⟩ v7).setCell ⟨g, 8, none⟩ v8).setCell ⟨g, 9, none⟩ v9).setCell ⟨g, 10, none⟩ v10).setCell ⟨g, 11, none⟩ v11).heap[g]? = some (.cells #[v0, v1, v2, v3, v4, v5, v6, v7, v8, v9, v10, v11, z12] T (0, 0)) := heap_setCell_same _ _ _ _ _ _ h11
  have h13 : (((((((((((((w.setCell ⟨g, 0, none⟩ v0).setCell ⟨g, 1, none⟩ v1).setCell ⟨g, 2, none⟩ v2).setCell ⟨g, 3, none⟩ v3).setCell ⟨g, 4, none⟩ v4).setCell ⟨g, 5, none⟩ v5).setCell ⟨g, 6, none⟩ v6).setCell ⟨g, 7, none⟩ v7).setCell ⟨g, 8, none⟩ v8).setCell ⟨g, 9, none⟩ v9).setCell ⟨g, 10, none⟩ v10).setCell ⟨g, 11, none⟩ v11).setCell ⟨g, 12, none⟩ v12).heap[g]? = some (.cells #[v0, v1, v2, v3, v4, v5, v6, v7, v8, v9, v10, v11, v12] T (0, 0)) := heap_setCell_same _ _ _ _ _ _ h12
  exact h13

theorem stored7Q {w : World} {g : Nat} {T : TypeId} {z0 z1 z2 z3 z4 z5 z6 : Value} (h0 : w.heap[g]? = some (.cells #[z0, z1, z2, z3, z4, z5, z6] T (0, 0))) (v0 v1 v2 v3 v4 v5 v6 : Value) : (((((((w.setCell ⟨g, 0, none⟩ v0).setCell ⟨g, 1, none⟩ v1).setCell ⟨g, 2, none⟩ v2).setCell ⟨g, 3, none⟩ v3).setCell ⟨g, 4, none⟩ v4).setCell ⟨g, 5, none⟩ v5).setCell ⟨g, 6, none⟩ v6).heap[g]? = some (.cells #[v0, v1, v2, v3, v4, v5, v6] T (0, 0)) := by
  have h1 : (w.setCell ⟨g, 0, none⟩ v0).heap[g]? = some (.cells #[v0, z1, z2, z3, z4, z5, z6] T (0, 0)) := heap_setCell_same _ _ _ _ _ _ h0
  have h2 : ((w.setCell ⟨g, 0, none⟩ v0).setCell ⟨g, 1, none⟩ v1).heap[g]? = some (.cells #[v0, v1, z2, z3, z4, z5, z6] T (0, 0)) := heap_setCell_same _ _ _ _ _ _ h1
  have h3 : (((w.setCell ⟨g, 0, none⟩ v0).setCell ⟨g, 1, none⟩ v1).setCell ⟨g, 2, none⟩ v2).heap[g]? = some (.cells #[v0, v1, v2, z3, z4, z5, z6] T (0, 0)) := heap_setCell_same _ _ _ _ _ _ h2
  have h4 : ((((w.setCell ⟨g, 0, none⟩ v0).setCell ⟨g, 1, none⟩ v1).setCell ⟨g, 2, none⟩ v2).setCell ⟨g, 3, none⟩ v3).heap[g]? = some (.cells #[v0, v1, v2, v3, z4, z5, z6] T (0, 0)) := heap_setCell_same _ _ _ _ _ _ h3
  have h5 : (((((w.setCell ⟨g, 0, none⟩ v0).setCell ⟨g, 1, none⟩ v1).setCell ⟨g, 2, none⟩ v2).setCell ⟨g, 3, none⟩ v3).setCell ⟨g, 4, none⟩ v4).heap[g]? = some (.cells #[v0, v1, v2, v3, v4, z5, z6] T (0, 0)) := heap_setCell_same _ _ _ _ _ _ h4
  have h6 : ((((((w.setCell ⟨g, 0, none⟩ v0).setCell ⟨g, 1, none⟩ v1).setCell ⟨g, 2, none⟩ v2).setCell ⟨g, 3, none⟩ v3).setCell ⟨g, 4, none⟩ v4).setCell ⟨g, 5, none⟩ v5).heap[g]? = some (.cells #[v0, v1, v2, v3, v4, v5, z6] T (0, 0)) := heap_setCell_same _ _ _ _ _ _ h5
  have h7 : (((((((w.setCell ⟨g, 0, none⟩ v0).setCell ⟨g, 1, none⟩ v1).setCell ⟨g, 2, none⟩ v2).setCell ⟨g, 3, none⟩ v3).setCell ⟨g, 4, none⟩ v4).setCell ⟨g, 5, none⟩ v5).setCell ⟨g, 6, none⟩ v6).heap[g]? = some (.cells #[v0, v1, v2, v3, v4, v5, v6] T (0, 0)) := heap_setCell_same _ _ _ _ _ _ h6
  exact h7

theorem stored6R {w : World} {g : Nat} {T : TypeId} {z0 z1 z2 z3 z4 z5 : Value} (h0 : w.heap[g]? = some (.cells #[z0, z1, z2, z3, z4, z5] T (0, 0))) (v0 v1 v2 v3 v4 v5 : Value) : ((((((w.setCell ⟨g, 0, none⟩ v0).setCell ⟨g, 1, none⟩ v1).setCell ⟨g, 2, none⟩ v2).setCell ⟨g, 3, none⟩ v3).setCell ⟨g, 4, none⟩ v4).setCell ⟨g, 5, none⟩ v5).heap[g]? = some (.cells #[v0, v1, v2, v3, v4, v5] T (0, 0)) := by
  have h1 : (w.setCell ⟨g, 0, none⟩ v0).heap[g]? = some (.cells #[v0, z1, z2, z3, z4, z5] T (0, 0)) := heap_setCell_same _ _ _ _ _ _ h0
  have h2 : ((w.setCell ⟨g, 0, none⟩ v0).setCell ⟨g, 1, none⟩ v1).heap[g]? = some (.cells #[v0, v1, z2, z3, z4, z5] T (0, 0)) := heap_setCell_same _ _ _ _ _ _ h1
  have h3 : (((w.setCell ⟨g, 0, none⟩ v0).setCell ⟨g, 1, none⟩ v1).setCell ⟨g, 2, none⟩ v2).heap[g]? = some (.cells #[v0, v1, v2, z3, z4, z5] T (0, 0)) := heap_setCell_same _ _ _ _ _ _ h2
  have h4 : ((((w.setCell ⟨g, 0, none⟩ v0).setCell ⟨g, 1, none⟩ v1).setCell ⟨g, 2, none⟩ v2).setCell ⟨g, 3, none⟩ v3).heap[g]? = some (.cells #[v0, v1, v2, v3, z4, z5] T (0, 0)) := heap_setCell_same _ _ _ _ _ _ h3
  have h5 : (((((w.setCell ⟨g, 0, none⟩ v0).setCell ⟨g, 1, none⟩ v1).setCell ⟨g, 2, none⟩ v2).setCell ⟨g, 3, none⟩ v3).setCell ⟨g, 4, none⟩ v4).heap[g]? = some (.cells #[v0, v1, v2, v3, v4, z5] T (0, 0)) := heap_setCell_same _ _ _ _ _ _ h4
  have h6 : ((((((w.setCell ⟨g, 0, none⟩ v0).setCell ⟨g, 1, none⟩ v1).setCell ⟨g, 2, none⟩ v2).setCell ⟨g, 3, none⟩ v3).setCell ⟨g, 4, none⟩ v4).setCell ⟨g, 5, none⟩ v5).heap[g]? = some (.cells #[v0, v1, v2, v3, v4, v5] T (0, 0)) := heap_setCell_same _ _ _ _ _ _ h5
  exact h6

theorem stored7P {w : World} {g : Nat} {T : TypeId} {z0 z1 z2 z3 z4 z5 z6 : Value} (h0 : w.heap[g]? = some (.cells #[z0, z1, z2, z3, z4, z5, z6] T (0, 0))) (v0 v1 v2 v3 v4 v5 v6 : Value) : (((((((w.setCell ⟨g, 0, none⟩ v0).setCell ⟨g, 1, none⟩ v1).setCell ⟨g, 2, none⟩ v2).setCell ⟨g, 3, none⟩ v3).setCell ⟨g, 4, none⟩ v4).setCell ⟨g, 5, none⟩ v5).setCell ⟨g, 6, none⟩ v6).heap[g]? = some (.cells #[v0, v1, v2, v3, v4, v5, v6] T (0, 0)) := by
  have h1 : (w.setCell ⟨g, 0, none⟩ v0).heap[g]? = some (.cells #[v0, z1, z2, z3, z4, z5, z6] T (0, 0)) := heap_setCell_same _ _ _ _ _ _ h0
  have h2 : ((w.setCell ⟨g, 0, none⟩ v0).setCell ⟨g, 1, none⟩ v1).heap[g]? = some (.cells #[v0, v1, z2, z3, z4, z5, z6] T (0, 0)) := heap_setCell_same _ _ _ _ _ _ h1
  have h3 : (((w.setCell ⟨g, 0, none⟩ v0).setCell ⟨g, 1, none⟩ v1).setCell ⟨g, 2, none⟩ v2).heap[g]? = some (.cells #[v0, v1, v2, z3, z4, z5, z6] T (0, 0)) := heap_setCell_same _ _ _ _ _ _ h2
  have h4 : ((((w.setCell ⟨g, 0, none⟩ v0).setCell ⟨g, 1, none⟩ v1).setCell ⟨g, 2, none⟩ v2).setCell ⟨g, 3, none⟩ v3).heap[g]? = some (.cells #[v0, v1, v2, v3, z4, z5, z6] T (0, 0)) := heap_setCell_same _ _ _ _ _ _ h3
  have h5 : (((((w.setCell ⟨g, 0, none⟩ v0).setCell ⟨g, 1, none⟩ v1).setCell ⟨g, 2, none⟩ v2).setCell ⟨g, 3, none⟩ v3).setCell ⟨g, 4, none⟩ v4).heap[g]? = some (.cells #[v0, v1, v2, v3, v4, z5, z6] T (0, 0)) := heap_setCell_same _ _ _ _ _ _ h4
  have h6 : ((((((w.setCell ⟨g, 0, none⟩ v0).setCell ⟨g, 1, none⟩ v1).setCell ⟨g, 2, none⟩ v2).setCell ⟨g, 3, none⟩ v3).setCell ⟨g, 4, none⟩ v4).setCell ⟨g, 5, none⟩ v5).heap[g]? = some (.cells #[v0, v1, v2, v3, v4, v5, z6] T (0, 0)) := heap_setCell_same _ _ _ _ _ _ h5
  have h7 : (((((((w.setCell ⟨g, 0, none⟩ v0).setCell ⟨g, 1, none⟩ v1).setCell ⟨g, 2, none⟩ v2).setCell ⟨g, 3, none⟩ v3).setCell ⟨g, 4, none⟩ v4).setCell ⟨g, 5, none⟩ v5).setCell ⟨g, 6, none⟩ v6).heap[g]? = some (.cells #[v0, v1, v2, v3, v4, v5, v6] T (0, 0)) := heap_setCell_same _ _ _ _ _ _ h6
  exact h7

set_option maxRecDepth 100000 in
set_option maxHeartbeats 8000000 in
theorem rdnote_any (w : World) (base bf be : Nat) (v : Value) (st0 : St) (hf : FldAt w base bf be v st0) (hlen : ∀ r, st0.1 = some r → r.length ≤ 1000000) (hbase : base ≤ w.heap.size) :
    Calls Try.prog 38 #[.pointer (some ⟨bf, 0, none⟩)] w fun e w' => ∃ (x : Note.N) (bv : Value), e = .returned (.agg #[.int .u8 (x.k : Int), .int .u8 (x.n : Int), .int .u32 (x.e : Int), .int .u32 (x.l : Int), .int .u32 (x.t : Int), .int .u32 (x.g : Int), .int .u32 (x.j : Int), .int .u32 (x.v : Int), .int .u8 (x.r : Int), .int .i64 x.c, .int .u32 (x.f : Int), .int .u32 (x.o : Int), bv]) ∧ x.wf ∧ Own w' w.heap.size bv x.b ∧ (∃ v' st1 st, FldAt w' base bf be v' st ∧ run Note.N.ks st0 = (x.ns, st1) ∧ Note.last true st1 = (some x.b, st)) ∧ Below base w w' := by
  have hlt := hf.lt
  have hle : be < w.heap.size := EyeAt.lt hf.2.1
  have hb1 := hf.2.2.2.1
  have hb2 : base ≤ be := hf.2.1.2.2.2
  obtain ⟨w0, hw0⟩ : ∃ w0, w0 = w.alloc (.cells #[.int .u8 0, .int .u8 0, .int .u32 0, .int .u32 0, .int .u32 0, .int .u32 0, .int .u32 0, .int .u32 0, .int .u8 0, .int .i64 0, .int .u32 0, .int .u32 0, .slice none 0 0] 25) := ⟨_, rfl⟩
  have hz : w0.heap[w.heap.size]? = some (.cells #[.int .u8 0, .int .u8 0, .int .u32 0, .int .u32 0, .int .u32 0, .int .u32 0, .int .u32 0, .int .u32 0, .int .u8 0, .int .i64 0, .int .u32 0, .int .u32 0, .slice none 0 0] 25 (0, 0)) := by rw [hw0]; exact heap_alloc_new w _
  have hw : Below w.heap.size w w0 := by rw [hw0]; exact (Below.refl _ _).alloc (Nat.le_refl _) _
  have hs0 : w.heap.size < w0.heap.size := by rw [hw0]; simp
  have hs1 : w0.heap.size ≤ w.heap.size + 1 := by rw [hw0]; simp
  have hf0 : FldAt w0 base bf be v st0 := ⟨(hw.block bf hlt).trans hf.1, EyeAt.below hf.2.1 hw, hf.2.2⟩
  have hc : w0.cell? ⟨bf, 0, none⟩ = some (.pointer (some ⟨be, 0, none⟩)) := hf0.cell0
  have hcur : FTr w0 w0.drew base bf be st0 [] [] := ⟨v, st0, hf0, rfl, (Keeps.refl _ _).drew, fun k hk => by have := (hf.2.1.2.2.1 k hk).2.2; omega⟩
  have hne1 : ¬ bf = w.heap.size := by omega
  have hne2 : ¬ w.heap.size = bf := by omega
  have HW0 := hid hw0
  have HZ := hid hz
  go_enter Try.func38, Try.ntmps38
  go_wp2_with fail
  rw [← HW0.out]
  clear hw0 hz hf0
  go_region_held3 (fun w' => w'.cell? ⟨bf, 0, none⟩ = some (.pointer (some ⟨be, 0, none⟩))) (first | (with_reducible exact hc) | (with_reducible exact hcur.cell0) | go_keep)
    (first
      | (go_at_call 39; refine (small_tr _ _ _ _ _ _ _ _ hcur).mono ?_; clear hcur; rintro e w1 ⟨n, rfl, hn, hcur⟩)
      | (go_at_call 40; refine (word_tr _ _ _ _ _ _ _ _ hcur).mono ?_; clear hcur; rintro e w1 ⟨n, rfl, hn, hcur⟩)
      | (go_at_call 41; refine (int_tr _ _ _ _ _ _ _ _ hcur).mono ?_; clear hcur; rintro e w1 ⟨n, rfl, hn, hcur⟩)
      | (go_at_call 47; refine (bool_tr _ _ _ _ _ _ _ _ hcur).mono ?_; clear hcur; rintro e w1 ⟨n, rfl, hcur⟩)
      | (go_at_call 42; have hsz := hcur.size; refine (text_tr _ _ _ _ _ _ _ _ hcur hlen).mono ?_; clear hcur; rintro e w1 ⟨u, b, rfl, hou, hcur⟩; have hou2 := hid (hou.base (b' := w.heap.size + 1) (fun k hk => by have := (hou.lt k hk).1; omega)); obtain ⟨ua, uc, e0, _⟩ := hou.rd; subst e0; have hold := hcur.old HZ.out hs0 (by omega) (by omega); have hz0 : w1.cell? ⟨w.heap.size, 0, none⟩ = some (.int .u8 0) := (cell_of_row _ _ _ _ _ _ hold).trans rfl; have hz1 : w1.cell? ⟨w.heap.size, 1, none⟩ = some (.int .u8 0) := (cell_of_row _ _ _ _ _ _ hold).trans rfl; have hz2 : w1.cell? ⟨w.heap.size, 2, none⟩ = some (.int .u32 0) := (cell_of_row _ _ _ _ _ _ hold).trans rfl; have hz3 : w1.cell? ⟨w.heap.size, 3, none⟩ = some (.int .u32 0) := (cell_of_row _ _ _ _ _ _ hold).trans rfl; have hz4 : w1.cell? ⟨w.heap.size, 4, none⟩ = some (.int .u32 0) := (cell_of_row _ _ _ _ _ _ hold).trans rfl; have hz5 : w1.cell? ⟨w.heap.size, 5, none⟩ = some (.int .u32 0) := (cell_of_row _ _ _ _ _ _ hold).trans rfl; have hz6 : w1.cell? ⟨w.heap.size, 6, none⟩ = some (.int .u32 0) := (cell_of_row _ _ _ _ _ _ hold).trans rfl; have hz7 : w1.cell? ⟨w.heap.size, 7, none⟩ = some (.int .u32 0) := (cell_of_row _ _ _ _ _ _ hold).trans rfl; have hz8 : w1.cell? ⟨w.heap.size, 8, none⟩ = some (.int .u8 0) := (cell_of_row _ _ _ _ _ _ hold).trans rfl; have hz9 : w1.cell? ⟨w.heap.size, 9, none⟩ = some (.int .i64 0) := (cell_of_row _ _ _ _ _ _ hold).trans rfl; have hz10 : w1.cell? ⟨w.heap.size, 10, none⟩ = some (.int .u32 0) := (cell_of_row _ _ _ _ _ _ hold).trans rfl; have hz11 : w1.cell? ⟨w.heap.size, 11, none⟩ = some (.int .u32 0) := (cell_of_row _ _ _ _ _ _ hold).trans rfl; have hz12 : w1.cell? ⟨w.heap.size, 12, none⟩ = some (.slice none 0 0) := (cell_of_row _ _ _ _ _ _ hold).trans rfl; have hfz : ∀ j, w1.frozen? ⟨w.heap.size, j, none⟩ = false := fun j => frozen_of_row _ _ _ _ _ hold; have HOLD := hid hold; clear hold)
      | fail)
  go_wp2_with fail
  obtain ⟨v2, st1, st2, g1, g2, g3, g4, g5⟩ := hcur
  have hv2 : v2.ownBlock ≠ some w.heap.size := fun e => by
    have := g5 _ e
    omega
  refine bodyPost_ret (results_cell_row rfl _ _ w.heap.size 25 _ (0, 0) _ rfl (stored13N HOLD.out _ _ _ _ _ _ _ _ _ _ _ _ _) Try.underlying25 rfl (by kernel_rfl)) rfl ⟨⟨_, _, _, _, _, _, _, _, _, _, _, _, _⟩, _, rfl, ?_, ?_, ⟨v2, st1, st2, g1.other ((((((((((((((Keeps.refl (fun k => k = w.heap.size) w1).setCell (p := ⟨w.heap.size, 0, none⟩) (fun _ => rfl) _).setCell (p := ⟨w.heap.size, 1, none⟩) (fun _ => rfl) _).setCell (p := ⟨w.heap.size, 2, none⟩) (fun _ => rfl) _).setCell (p := ⟨w.heap.size, 3, none⟩) (fun _ => rfl) _).setCell (p := ⟨w.heap.size, 4, none⟩) (fun _ => rfl) _).setCell (p := ⟨w.heap.size, 5, none⟩) (fun _ => rfl) _).setCell (p := ⟨w.heap.size, 6, none⟩) (fun _ => rfl) _).setCell (p := ⟨w.heap.size, 7, none⟩) (fun _ => rfl) _).setCell (p := ⟨w.heap.size, 8, none⟩) (fun _ => rfl) _).setCell (p := ⟨w.heap.size, 9, none⟩) (fun _ => rfl) _).setCell (p := ⟨w.heap.size, 10, none⟩) (fun _ => rfl) _).setCell (p := ⟨w.heap.size, 11, none⟩) (fun _ => rfl) _).setCell (p := ⟨w.heap.size, 12, none⟩) (fun _ => rfl) _) (by omega) (by omega) hv2, ?_, g3⟩, ?_⟩
  · have hcc : ∀ m : Nat, m < 2147483648 → -9223372036854775808 ≤ (m : Int) ∧ (m : Int) < 9223372036854775808 := fun m hm => by omega
    exact ⟨by assumption, by assumption, by assumption, by assumption, by assumption, by assumption, by assumption, by assumption, by assumption, (hcc _ (by assumption)).1, (hcc _ (by assumption)).2, by assumption, by assumption⟩
  · exact (hou2.out.keeps ((((((((((((((Keeps.refl (fun k => k = w.heap.size) w1).setCell (p := ⟨w.heap.size, 0, none⟩) (fun _ => rfl) _).setCell (p := ⟨w.heap.size, 1, none⟩) (fun _ => rfl) _).setCell (p := ⟨w.heap.size, 2, none⟩) (fun _ => rfl) _).setCell (p := ⟨w.heap.size, 3, none⟩) (fun _ => rfl) _).setCell (p := ⟨w.heap.size, 4, none⟩) (fun _ => rfl) _).setCell (p := ⟨w.heap.size, 5, none⟩) (fun _ => rfl) _).setCell (p := ⟨w.heap.size, 6, none⟩) (fun _ => rfl) _).setCell (p := ⟨w.heap.size, 7, none⟩) (fun _ => rfl) _).setCell (p := ⟨w.heap.size, 8, none⟩) (fun _ => rfl) _).setCell (p := ⟨w.heap.size, 9, none⟩) (fun _ => rfl) _).setCell (p := ⟨w.heap.size, 10, none⟩) (fun _ => rfl) _).setCell (p := ⟨w.heap.size, 11, none⟩) (fun _ => rfl) _).setCell (p := ⟨w.heap.size, 12, none⟩) (fun _ => rfl) _) (fun k hk e => by have := (hou2.out.lt k hk).1; omega)).base (fun k hk => by have := (hou2.out.lt k hk).1; omega)
  · simp only [List.nil_append, List.cons_append] at g2
    simp (disch := omega) only [Note.N.ks, Note.N.ns, Note.u64_nat]
    exact g2
  · exact ((hw.mono hbase).trans (g4.below (B := base) (by omega) (fun i hi => by rcases hi with rfl | rfl <;> omega))).trans (((((((((((((((Keeps.refl (fun k => k = w.heap.size) w1).setCell (p := ⟨w.heap.size, 0, none⟩) (fun _ => rfl) _).setCell (p := ⟨w.heap.size, 1, none⟩) (fun _ => rfl) _).setCell (p := ⟨w.heap.size, 2, none⟩) (fun _ => rfl) _).setCell (p := ⟨w.heap.size, 3, none⟩) (fun _ => rfl) _).setCell (p := ⟨w.heap.size, 4, none⟩) (fun _ => rfl) _).setCell (p := ⟨w.heap.size, 5, none⟩) (fun _ => rfl) _).setCell (p := ⟨w.heap.size, 6, none⟩) (fun _ => rfl) _).setCell (p := ⟨w.heap.size, 7, none⟩) (fun _ => rfl) _).setCell (p := ⟨w.heap.size, 8, none⟩) (fun _ => rfl) _).setCell (p := ⟨w.heap.size, 9, none⟩) (fun _ => rfl) _).setCell (p := ⟨w.heap.size, 10, none⟩) (fun _ => rfl) _).setCell (p := ⟨w.heap.size, 11, none⟩) (fun _ => rfl) _).setCell (p := ⟨w.heap.size, 12, none⟩) (fun _ => rfl) _).below (B := base) (by have := g4.size; omega) (fun i hi => by omega))

set_option maxRecDepth 100000 in
set_option maxHeartbeats 2000000 in
theorem rdrequest_any (w : World) (base bf be : Nat) (v : Value) (st0 : St) (hf : FldAt w base bf be v st0) (hbase : base ≤ w.heap.size) :
    Calls Try.prog 51 #[.pointer (some ⟨bf, 0, none⟩)] w fun e w' => ∃ x : Note.Q, e = .returned (.agg #[.int .u8 (x.cl : Int), .int .u32 (x.s : Int), .int .u8 (x.k : Int), .int .u8 (x.t : Int), .int .i64 x.kk, .int .i64 x.w, .int .u32 (x.j : Int)]) ∧ x.wf ∧ (∃ v' st1 st, FldAt w' base bf be v' st ∧ run Note.Q.ks st0 = (x.ns, st1) ∧ Note.last false st1 = (none, st)) ∧ Below base w w' := by
  have hlt := hf.lt
  have hle : be < w.heap.size := EyeAt.lt hf.2.1
  have hb1 := hf.2.2.2.1
  have hb2 : base ≤ be := hf.2.1.2.2.2
  obtain ⟨w0, hw0⟩ : ∃ w0, w0 = w.alloc (.cells #[.int .u8 0, .int .u32 0, .int .u8 0, .int .u8 0, .int .i64 0, .int .i64 0, .int .u32 0] 48) := ⟨_, rfl⟩
  have hz : w0.heap[w.heap.size]? = some (.cells #[.int .u8 0, .int .u32 0, .int .u8 0, .int .u8 0, .int .i64 0, .int .i64 0, .int .u32 0] 48 (0, 0)) := by rw [hw0]; exact heap_alloc_new w _
  have hw : Below w.heap.size w w0 := by rw [hw0]; exact (Below.refl _ _).alloc (Nat.le_refl _) _
  have hs0 : w.heap.size < w0.heap.size := by rw [hw0]; simp
  have hs1 : w0.heap.size ≤ w.heap.size + 1 := by rw [hw0]; simp
  have hf0 : FldAt w0 base bf be v st0 := ⟨(hw.block bf hlt).trans hf.1, EyeAt.below hf.2.1 hw, hf.2.2⟩
  have hc : w0.cell? ⟨bf, 0, none⟩ = some (.pointer (some ⟨be, 0, none⟩)) := hf0.cell0
  have hcur : FTr w0 w0.drew base bf be st0 [] [] := ⟨v, st0, hf0, rfl, (Keeps.refl _ _).drew, fun k hk => by have := (hf.2.1.2.2.1 k hk).2.2; omega⟩
  have hne1 : ¬ bf = w.heap.size := by omega
  have hne2 : ¬ w.heap.size = bf := by omega
  have HW0 := hid hw0
  have HZ := hid hz
  go_enter Try.func51, Try.ntmps51
  go_wp2_with fail
  rw [← HW0.out]
  clear hw0 hz hf0
  go_region_held3 (fun w' => w'.cell? ⟨bf, 0, none⟩ = some (.pointer (some ⟨be, 0, none⟩))) (first | (with_reducible exact hc) | (with_reducible exact hcur.cell0) | go_keep)
    (first
      | (go_at_call 39; refine (small_tr _ _ _ _ _ _ _ _ hcur).mono ?_; clear hcur; rintro e w1 ⟨n, rfl, hn, hcur⟩)
      | (go_at_call 40; refine (word_tr _ _ _ _ _ _ _ _ hcur).mono ?_; clear hcur; rintro e w1 ⟨n, rfl, hn, hcur⟩; (try clear hfz HOLD); (try clear hz0); (try clear hz1); (try clear hz2); (try clear hz3); (try clear hz4); (try clear hz5); (try clear hz6); have hold := hcur.old HZ.out hs0 (by omega) (by omega); have hz0 : w1.cell? ⟨w.heap.size, 0, none⟩ = some (.int .u8 0) := (cell_of_row _ _ _ _ _ _ hold).trans rfl; have hz1 : w1.cell? ⟨w.heap.size, 1, none⟩ = some (.int .u32 0) := (cell_of_row _ _ _ _ _ _ hold).trans rfl; have hz2 : w1.cell? ⟨w.heap.size, 2, none⟩ = some (.int .u8 0) := (cell_of_row _ _ _ _ _ _ hold).trans rfl; have hz3 : w1.cell? ⟨w.heap.size, 3, none⟩ = some (.int .u8 0) := (cell_of_row _ _ _ _ _ _ hold).trans rfl; have hz4 : w1.cell? ⟨w.heap.size, 4, none⟩ = some (.int .i64 0) := (cell_of_row _ _ _ _ _ _ hold).trans rfl; have hz5 : w1.cell? ⟨w.heap.size, 5, none⟩ = some (.int .i64 0) := (cell_of_row _ _ _ _ _ _ hold).trans rfl; have hz6 : w1.cell? ⟨w.heap.size, 6, none⟩ = some (.int .u32 0) := (cell_of_row _ _ _ _ _ _ hold).trans rfl; have hfz : ∀ j, w1.frozen? ⟨w.heap.size, j, none⟩ = false := fun j => frozen_of_row _ _ _ _ _ hold; have HOLD := hid hold; clear hold)
      | (go_at_call 41; refine (int_tr _ _ _ _ _ _ _ _ hcur).mono ?_; clear hcur; rintro e w1 ⟨n, rfl, hn, hcur⟩)
      | (go_at_call 47; refine (bool_tr _ _ _ _ _ _ _ _ hcur).mono ?_; clear hcur; rintro e w1 ⟨n, rfl, hcur⟩)
      | (go_at_call 42; have hsz := hcur.size; refine (text_tr _ _ _ _ _ _ _ _ hcur hlen).mono ?_; clear hcur; rintro e w1 ⟨u, b, rfl, hou, hcur⟩; have hou2 := hid (hou.base (b' := w.heap.size + 1) (fun k hk => by have := (hou.lt k hk).1; omega)); obtain ⟨ua, uc, e0, _⟩ := hou.rd; subst e0)
      | fail)
  go_wp2_with fail
  obtain ⟨v2, st2, g1, g2, g4, g5⟩ := hcur
  have hv2 : v2.ownBlock ≠ some w.heap.size := fun e => by
    have := g5 _ e
    omega
  refine bodyPost_ret (results_cell_row rfl _ _ w.heap.size 48 _ (0, 0) _ rfl (stored7Q HOLD.out _ _ _ _ _ _ _) Try.underlying48 rfl (by kernel_rfl)) rfl ⟨⟨_, _, _, _, _, _, _⟩, rfl, ?_, ⟨v2, st2, st2, g1.other ((((((((Keeps.refl (fun k => k = w.heap.size) w1).setCell (p := ⟨w.heap.size, 0, none⟩) (fun _ => rfl) _).setCell (p := ⟨w.heap.size, 1, none⟩) (fun _ => rfl) _).setCell (p := ⟨w.heap.size, 2, none⟩) (fun _ => rfl) _).setCell (p := ⟨w.heap.size, 3, none⟩) (fun _ => rfl) _).setCell (p := ⟨w.heap.size, 4, none⟩) (fun _ => rfl) _).setCell (p := ⟨w.heap.size, 5, none⟩) (fun _ => rfl) _).setCell (p := ⟨w.heap.size, 6, none⟩) (fun _ => rfl) _) (by omega) (by omega) hv2, ?_, rfl⟩, ?_⟩
  · have hcc : ∀ m : Nat, m < 2147483648 → -9223372036854775808 ≤ (m : Int) ∧ (m : Int) < 9223372036854775808 := fun m hm => by omega
    exact ⟨by assumption, by assumption, by assumption, by assumption, (hcc _ (by assumption)).1, (hcc _ (by assumption)).2, (hcc _ (by assumption)).1, (hcc _ (by assumption)).2, by assumption⟩
  · simp only [List.nil_append, List.cons_append] at g2
    simp (disch := omega) only [Note.Q.ks, Note.Q.ns, Note.u64_nat]
    exact g2
  · exact ((hw.mono hbase).trans (g4.below (B := base) (by omega) (fun i hi => by rcases hi with rfl | rfl <;> omega))).trans (((((((((Keeps.refl (fun k => k = w.heap.size) w1).setCell (p := ⟨w.heap.size, 0, none⟩) (fun _ => rfl) _).setCell (p := ⟨w.heap.size, 1, none⟩) (fun _ => rfl) _).setCell (p := ⟨w.heap.size, 2, none⟩) (fun _ => rfl) _).setCell (p := ⟨w.heap.size, 3, none⟩) (fun _ => rfl) _).setCell (p := ⟨w.heap.size, 4, none⟩) (fun _ => rfl) _).setCell (p := ⟨w.heap.size, 5, none⟩) (fun _ => rfl) _).setCell (p := ⟨w.heap.size, 6, none⟩) (fun _ => rfl) _).below (B := base) (by have := g4.size; omega) (fun i hi => by omega))

set_option maxRecDepth 100000 in
set_option maxHeartbeats 2000000 in
theorem rdreply_any (w : World) (base bf be : Nat) (v : Value) (st0 : St) (hf : FldAt w base bf be v st0) (hbase : base ≤ w.heap.size) :
    Calls Try.prog 55 #[.pointer (some ⟨bf, 0, none⟩)] w fun e w' => ∃ x : Note.R, e = .returned (.agg #[.int .u8 (x.cl : Int), .int .u32 (x.s : Int), .int .i64 x.e, .int .u32 (x.j : Int), .int .u8 (x.st : Int), .int .i64 x.c]) ∧ x.wf ∧ (∃ v' st1 st, FldAt w' base bf be v' st ∧ run Note.R.ks st0 = (x.ns, st1) ∧ Note.last false st1 = (none, st)) ∧ Below base w w' := by
  have hlt := hf.lt
  have hle : be < w.heap.size := EyeAt.lt hf.2.1
  have hb1 := hf.2.2.2.1
  have hb2 : base ≤ be := hf.2.1.2.2.2
  obtain ⟨w0, hw0⟩ : ∃ w0, w0 = w.alloc (.cells #[.int .u8 0, .int .u32 0, .int .i64 0, .int .u32 0, .int .u8 0, .int .i64 0] 54) := ⟨_, rfl⟩
  have hz : w0.heap[w.heap.size]? = some (.cells #[.int .u8 0, .int .u32 0, .int .i64 0, .int .u32 0, .int .u8 0, .int .i64 0] 54 (0, 0)) := by rw [hw0]; exact heap_alloc_new w _
  have hw : Below w.heap.size w w0 := by rw [hw0]; exact (Below.refl _ _).alloc (Nat.le_refl _) _
  have hs0 : w.heap.size < w0.heap.size := by rw [hw0]; simp
  have hs1 : w0.heap.size ≤ w.heap.size + 1 := by rw [hw0]; simp
  have hf0 : FldAt w0 base bf be v st0 := ⟨(hw.block bf hlt).trans hf.1, EyeAt.below hf.2.1 hw, hf.2.2⟩
  have hc : w0.cell? ⟨bf, 0, none⟩ = some (.pointer (some ⟨be, 0, none⟩)) := hf0.cell0
  have hcur : FTr w0 w0.drew base bf be st0 [] [] := ⟨v, st0, hf0, rfl, (Keeps.refl _ _).drew, fun k hk => by have := (hf.2.1.2.2.1 k hk).2.2; omega⟩
  have hne1 : ¬ bf = w.heap.size := by omega
  have hne2 : ¬ w.heap.size = bf := by omega
  have HW0 := hid hw0
  have HZ := hid hz
  go_enter Try.func55, Try.ntmps55
  go_wp2_with fail
  rw [← HW0.out]
  clear hw0 hz hf0
  go_region_held3 (fun w' => w'.cell? ⟨bf, 0, none⟩ = some (.pointer (some ⟨be, 0, none⟩))) (first | (with_reducible exact hc) | (with_reducible exact hcur.cell0) | go_keep)
    (first
      | (go_at_call 39; refine (small_tr _ _ _ _ _ _ _ _ hcur).mono ?_; clear hcur; rintro e w1 ⟨n, rfl, hn, hcur⟩)
      | (go_at_call 40; refine (word_tr _ _ _ _ _ _ _ _ hcur).mono ?_; clear hcur; rintro e w1 ⟨n, rfl, hn, hcur⟩)
      | (go_at_call 41; refine (int_tr _ _ _ _ _ _ _ _ hcur).mono ?_; clear hcur; rintro e w1 ⟨n, rfl, hn, hcur⟩; (try clear hfz HOLD); (try clear hz0); (try clear hz1); (try clear hz2); (try clear hz3); (try clear hz4); (try clear hz5); have hold := hcur.old HZ.out hs0 (by omega) (by omega); have hz0 : w1.cell? ⟨w.heap.size, 0, none⟩ = some (.int .u8 0) := (cell_of_row _ _ _ _ _ _ hold).trans rfl; have hz1 : w1.cell? ⟨w.heap.size, 1, none⟩ = some (.int .u32 0) := (cell_of_row _ _ _ _ _ _ hold).trans rfl; have hz2 : w1.cell? ⟨w.heap.size, 2, none⟩ = some (.int .i64 0) := (cell_of_row _ _ _ _ _ _ hold).trans rfl; have hz3 : w1.cell? ⟨w.heap.size, 3, none⟩ = some (.int .u32 0) := (cell_of_row _ _ _ _ _ _ hold).trans rfl; have hz4 : w1.cell? ⟨w.heap.size, 4, none⟩ = some (.int .u8 0) := (cell_of_row _ _ _ _ _ _ hold).trans rfl; have hz5 : w1.cell? ⟨w.heap.size, 5, none⟩ = some (.int .i64 0) := (cell_of_row _ _ _ _ _ _ hold).trans rfl; have hfz : ∀ j, w1.frozen? ⟨w.heap.size, j, none⟩ = false := fun j => frozen_of_row _ _ _ _ _ hold; have HOLD := hid hold; clear hold)
      | (go_at_call 47; refine (bool_tr _ _ _ _ _ _ _ _ hcur).mono ?_; clear hcur; rintro e w1 ⟨n, rfl, hcur⟩)
      | (go_at_call 42; have hsz := hcur.size; refine (text_tr _ _ _ _ _ _ _ _ hcur hlen).mono ?_; clear hcur; rintro e w1 ⟨u, b, rfl, hou, hcur⟩; have hou2 := hid (hou.base (b' := w.heap.size + 1) (fun k hk => by have := (hou.lt k hk).1; omega)); obtain ⟨ua, uc, e0, _⟩ := hou.rd; subst e0)
      | fail)
  go_wp2_with fail
  obtain ⟨v2, st2, g1, g2, g4, g5⟩ := hcur
  have hv2 : v2.ownBlock ≠ some w.heap.size := fun e => by
    have := g5 _ e
    omega
  refine bodyPost_ret (results_cell_row rfl _ _ w.heap.size 54 _ (0, 0) _ rfl (stored6R HOLD.out _ _ _ _ _ _) Try.underlying54 rfl (by kernel_rfl)) rfl ⟨⟨_, _, _, _, _, _⟩, rfl, ?_, ⟨v2, st2, st2, g1.other (((((((Keeps.refl (fun k => k = w.heap.size) w1).setCell (p := ⟨w.heap.size, 0, none⟩) (fun _ => rfl) _).setCell (p := ⟨w.heap.size, 1, none⟩) (fun _ => rfl) _).setCell (p := ⟨w.heap.size, 2, none⟩) (fun _ => rfl) _).setCell (p := ⟨w.heap.size, 3, none⟩) (fun _ => rfl) _).setCell (p := ⟨w.heap.size, 4, none⟩) (fun _ => rfl) _).setCell (p := ⟨w.heap.size, 5, none⟩) (fun _ => rfl) _) (by omega) (by omega) hv2, ?_, rfl⟩, ?_⟩
  · have hcc : ∀ m : Nat, m < 2147483648 → -9223372036854775808 ≤ (m : Int) ∧ (m : Int) < 9223372036854775808 := fun m hm => by omega
    exact ⟨by assumption, by assumption, (hcc _ (by assumption)).1, (hcc _ (by assumption)).2, by assumption, by assumption, (hcc _ (by assumption)).1, (hcc _ (by assumption)).2⟩
  · simp only [List.nil_append, List.cons_append] at g2
    simp (disch := omega) only [Note.R.ks, Note.R.ns, Note.u64_nat]
    exact g2
  · exact ((hw.mono hbase).trans (g4.below (B := base) (by omega) (fun i hi => by rcases hi with rfl | rfl <;> omega))).trans ((((((((Keeps.refl (fun k => k = w.heap.size) w1).setCell (p := ⟨w.heap.size, 0, none⟩) (fun _ => rfl) _).setCell (p := ⟨w.heap.size, 1, none⟩) (fun _ => rfl) _).setCell (p := ⟨w.heap.size, 2, none⟩) (fun _ => rfl) _).setCell (p := ⟨w.heap.size, 3, none⟩) (fun _ => rfl) _).setCell (p := ⟨w.heap.size, 4, none⟩) (fun _ => rfl) _).setCell (p := ⟨w.heap.size, 5, none⟩) (fun _ => rfl) _).below (B := base) (by have := g4.size; omega) (fun i hi => by omega))

set_option maxRecDepth 100000 in
set_option maxHeartbeats 2000000 in
theorem rdpacket_any (w : World) (base bf be : Nat) (v : Value) (st0 : St) (hf : FldAt w base bf be v st0) (hlen : ∀ r, st0.1 = some r → r.length ≤ 1000000) (hbase : base ≤ w.heap.size) :
    Calls Try.prog 46 #[.pointer (some ⟨bf, 0, none⟩)] w fun e w' => ∃ (x : Note.P) (bv : Value), e = .returned (.agg #[.int .u8 (x.n : Int), .int .u32 (x.e : Int), .int .u32 (x.l : Int), .int .u32 (x.s : Int), .int .u32 (x.a : Int), .bool x.p, bv]) ∧ x.wf ∧ Own w' w.heap.size bv x.b ∧ (∃ v' st1 st, FldAt w' base bf be v' st ∧ run Note.P.ks st0 = (x.ns, st1) ∧ Note.last true st1 = (some x.b, st)) ∧ Below base w w' := by
  have hlt := hf.lt
  have hle : be < w.heap.size := EyeAt.lt hf.2.1
  have hb1 := hf.2.2.2.1
  have hb2 : base ≤ be := hf.2.1.2.2.2
  obtain ⟨w0, hw0⟩ : ∃ w0, w0 = w.alloc (.cells #[.int .u8 0, .int .u32 0, .int .u32 0, .int .u32 0, .int .u32 0, .bool false, .slice none 0 0] 38) := ⟨_, rfl⟩
  have hz : w0.heap[w.heap.size]? = some (.cells #[.int .u8 0, .int .u32 0, .int .u32 0, .int .u32 0, .int .u32 0, .bool false, .slice none 0 0] 38 (0, 0)) := by rw [hw0]; exact heap_alloc_new w _
  have hw : Below w.heap.size w w0 := by rw [hw0]; exact (Below.refl _ _).alloc (Nat.le_refl _) _
  have hs0 : w.heap.size < w0.heap.size := by rw [hw0]; simp
  have hs1 : w0.heap.size ≤ w.heap.size + 1 := by rw [hw0]; simp
  have hf0 : FldAt w0 base bf be v st0 := ⟨(hw.block bf hlt).trans hf.1, EyeAt.below hf.2.1 hw, hf.2.2⟩
  have hc : w0.cell? ⟨bf, 0, none⟩ = some (.pointer (some ⟨be, 0, none⟩)) := hf0.cell0
  have hcur : FTr w0 w0.drew base bf be st0 [] [] := ⟨v, st0, hf0, rfl, (Keeps.refl _ _).drew, fun k hk => by have := (hf.2.1.2.2.1 k hk).2.2; omega⟩
  have hne1 : ¬ bf = w.heap.size := by omega
  have hne2 : ¬ w.heap.size = bf := by omega
  have HW0 := hid hw0
  have HZ := hid hz
  go_enter Try.func46, Try.ntmps46
  go_wp2_with fail
  rw [← HW0.out]
  clear hw0 hz hf0
  go_region_held3 (fun w' => w'.cell? ⟨bf, 0, none⟩ = some (.pointer (some ⟨be, 0, none⟩))) (first | (with_reducible exact hc) | (with_reducible exact hcur.cell0) | go_keep)
    (first
      | (go_at_call 39; refine (small_tr _ _ _ _ _ _ _ _ hcur).mono ?_; clear hcur; rintro e w1 ⟨n, rfl, hn, hcur⟩)
      | (go_at_call 40; refine (word_tr _ _ _ _ _ _ _ _ hcur).mono ?_; clear hcur; rintro e w1 ⟨n, rfl, hn, hcur⟩)
      | (go_at_call 41; refine (int_tr _ _ _ _ _ _ _ _ hcur).mono ?_; clear hcur; rintro e w1 ⟨n, rfl, hn, hcur⟩)
      | (go_at_call 47; refine (bool_tr _ _ _ _ _ _ _ _ hcur).mono ?_; clear hcur; rintro e w1 ⟨n, rfl, hcur⟩)
      | (go_at_call 42; have hsz := hcur.size; refine (text_tr _ _ _ _ _ _ _ _ hcur hlen).mono ?_; clear hcur; rintro e w1 ⟨u, b, rfl, hou, hcur⟩; have hou2 := hid (hou.base (b' := w.heap.size + 1) (fun k hk => by have := (hou.lt k hk).1; omega)); obtain ⟨ua, uc, e0, _⟩ := hou.rd; subst e0; have hold := hcur.old HZ.out hs0 (by omega) (by omega); have hz0 : w1.cell? ⟨w.heap.size, 0, none⟩ = some (.int .u8 0) := (cell_of_row _ _ _ _ _ _ hold).trans rfl; have hz1 : w1.cell? ⟨w.heap.size, 1, none⟩ = some (.int .u32 0) := (cell_of_row _ _ _ _ _ _ hold).trans rfl; have hz2 : w1.cell? ⟨w.heap.size, 2, none⟩ = some (.int .u32 0) := (cell_of_row _ _ _ _ _ _ hold).trans rfl; have hz3 : w1.cell? ⟨w.heap.size, 3, none⟩ = some (.int .u32 0) := (cell_of_row _ _ _ _ _ _ hold).trans rfl; have hz4 : w1.cell? ⟨w.heap.size, 4, none⟩ = some (.int .u32 0) := (cell_of_row _ _ _ _ _ _ hold).trans rfl; have hz5 : w1.cell? ⟨w.heap.size, 5, none⟩ = some (.bool false) := (cell_of_row _ _ _ _ _ _ hold).trans rfl; have hz6 : w1.cell? ⟨w.heap.size, 6, none⟩ = some (.slice none 0 0) := (cell_of_row _ _ _ _ _ _ hold).trans rfl; have hfz : ∀ j, w1.frozen? ⟨w.heap.size, j, none⟩ = false := fun j => frozen_of_row _ _ _ _ _ hold; have HOLD := hid hold; clear hold)
      | fail)
  go_wp2_with fail
  obtain ⟨v2, st1, st2, g1, g2, g3, g4, g5⟩ := hcur
  have hv2 : v2.ownBlock ≠ some w.heap.size := fun e => by
    have := g5 _ e
    omega
  refine bodyPost_ret (results_cell_row rfl _ _ w.heap.size 38 _ (0, 0) _ rfl (stored7P HOLD.out _ _ _ _ _ _ _) Try.underlying38 rfl (by kernel_rfl)) rfl ⟨⟨_, _, _, _, _, _, _⟩, _, rfl, ?_, ?_, ⟨v2, st1, st2, g1.other ((((((((Keeps.refl (fun k => k = w.heap.size) w1).setCell (p := ⟨w.heap.size, 0, none⟩) (fun _ => rfl) _).setCell (p := ⟨w.heap.size, 1, none⟩) (fun _ => rfl) _).setCell (p := ⟨w.heap.size, 2, none⟩) (fun _ => rfl) _).setCell (p := ⟨w.heap.size, 3, none⟩) (fun _ => rfl) _).setCell (p := ⟨w.heap.size, 4, none⟩) (fun _ => rfl) _).setCell (p := ⟨w.heap.size, 5, none⟩) (fun _ => rfl) _).setCell (p := ⟨w.heap.size, 6, none⟩) (fun _ => rfl) _) (by omega) (by omega) hv2, ?_, g3⟩, ?_⟩
  · have hcc : ∀ m : Nat, m < 2147483648 → -9223372036854775808 ≤ (m : Int) ∧ (m : Int) < 9223372036854775808 := fun m hm => by omega
    exact ⟨by assumption, by assumption, by assumption, by assumption, by assumption⟩
  · exact (hou2.out.keeps ((((((((Keeps.refl (fun k => k = w.heap.size) w1).setCell (p := ⟨w.heap.size, 0, none⟩) (fun _ => rfl) _).setCell (p := ⟨w.heap.size, 1, none⟩) (fun _ => rfl) _).setCell (p := ⟨w.heap.size, 2, none⟩) (fun _ => rfl) _).setCell (p := ⟨w.heap.size, 3, none⟩) (fun _ => rfl) _).setCell (p := ⟨w.heap.size, 4, none⟩) (fun _ => rfl) _).setCell (p := ⟨w.heap.size, 5, none⟩) (fun _ => rfl) _).setCell (p := ⟨w.heap.size, 6, none⟩) (fun _ => rfl) _) (fun k hk e => by have := (hou2.out.lt k hk).1; omega)).base (fun k hk => by have := (hou2.out.lt k hk).1; omega)
  · simp only [List.nil_append, List.cons_append] at g2
    simp only [Note.P.ks, Note.P.ns]
    exact g2
  · exact ((hw.mono hbase).trans (g4.below (B := base) (by omega) (fun i hi => by rcases hi with rfl | rfl <;> omega))).trans (((((((((Keeps.refl (fun k => k = w.heap.size) w1).setCell (p := ⟨w.heap.size, 0, none⟩) (fun _ => rfl) _).setCell (p := ⟨w.heap.size, 1, none⟩) (fun _ => rfl) _).setCell (p := ⟨w.heap.size, 2, none⟩) (fun _ => rfl) _).setCell (p := ⟨w.heap.size, 3, none⟩) (fun _ => rfl) _).setCell (p := ⟨w.heap.size, 4, none⟩) (fun _ => rfl) _).setCell (p := ⟨w.heap.size, 5, none⟩) (fun _ => rfl) _).setCell (p := ⟨w.heap.size, 6, none⟩) (fun _ => rfl) _).below (B := base) (by have := g4.size; omega) (fun i hi => by omega))

end Go.Proofs.Ytafpgglebjllbaa
