/-
  Layer 9: datagrams that fly, plain; where they lie.
-/
import Derived.Test.YtecnopopmonlpaaKeepT
namespace Go.Proofs.Ytecnopopmonlpaa
open Go.RowKit
set_option linter.unusedVariables false

theorem rd_sl {w : World} {v : Value} {l : List UInt8} (h : Rd w v l) : ∃ a c, v = .slice a l.length c :=
  let ⟨a, c, e, _⟩ := h
  ⟨a, c, e⟩

/-- A datagram that flies: its number, whereto, its bytes. -/
structure Fl where
  id : Nat
  to : Int
  t : List UInt8

structure Ar where
  room : Nat
  last : Nat
  l : List Fl

def fcells (x : Fl × Value) : List Value := [.int .u64 (x.1.id : Int), .int .i64 x.1.to, x.2]

/-- Numbers rise, and each was given. -/
def Ar.ok (s : Ar) : Prop := (s.l.map (·.id)).Pairwise (· < ·) ∧ (∀ f ∈ s.l, f.id ≤ s.last) ∧ s.room ≤ 2048 ∧ s.l.length ≤ s.room ∧ ∀ f ∈ s.l, f.t.length ≤ 140737488355328

/-- Where its blocks lie: from n on; the bytes of those that fly where P says. -/
structure B9 where
  n : Nat
  P : Nat → Prop

instance : Coe Nat B9 := ⟨fun n => ⟨n, fun _ => True⟩⟩

structure ArV (w : World) (base : B9) (b : Nat) (TA TF : TypeId) (s : Ar) (fv : Value) (PF : List (Fl × Value)) : Prop where
  head : w.heap[b]? = some (.cells #[.int .i64 (s.room : Int), .int .u64 (s.last : Int), fv] TA (0, 0))
  row : w.ownsRow base.n TF 3 fv PF.length (PF.flatMap fcells)
  list : s.l = PF.map (·.1)
  own : ∀ x ∈ PF, Own w base.n x.2 x.1.t
  low : base.n ≤ b
  ok : s.ok
  far : ∀ x ∈ PF, ∀ k, x.2.ownBlock = some k → base.P k

def ArAt (w : World) (base : B9) (b : Nat) (TA TF : TypeId) (s : Ar) : Prop := ∃ fv PF, ArV w base b TA TF s fv PF

theorem ArV.kt {ts : List TypeId} {b0 : Nat} {w w' : World} {base : B9} {b : Nat} {TA TF : TypeId} {s : Ar} {fv : Value} {PF : List (Fl × Value)} (h : ArV w base b TA TF s fv PF) (hk : KT ts b0 w w') (h1 : TA ∉ ts) (h2 : TF ∉ ts) (h3 : 5 ∉ ts) : ArV w' base b TA TF s fv PF :=
  ⟨hk.block h.head h1, owns_kt h.row hk h2, h.list, fun x hx => (h.own x hx).kt hk h3, h.low, h.ok, h.far⟩

theorem ArAt.kt {ts : List TypeId} {b0 : Nat} {w w' : World} {base : B9} {b : Nat} {TA TF : TypeId} {s : Ar} (h : ArAt w base b TA TF s) (hk : KT ts b0 w w') (h1 : TA ∉ ts) (h2 : TF ∉ ts) (h3 : 5 ∉ ts) : ArAt w' base b TA TF s :=
  let ⟨fv, PF, hh⟩ := h
  ⟨fv, PF, hh.kt hk h1 h2 h3⟩

theorem ArV.below {w w' : World} {base : B9} {b : Nat} {TA TF : TypeId} {s : Ar} {fv : Value} {PF : List (Fl × Value)} (h : ArV w base b TA TF s fv PF) (hb : Below w.heap.size w w') : ArV w' base b TA TF s fv PF :=
  h.kt (KT.of_below (ts := []) hb (Nat.le_refl _)) (by simp) (by simp) (by simp)

theorem ArAt.below {w w' : World} {base : B9} {b : Nat} {TA TF : TypeId} {s : Ar} (h : ArAt w base b TA TF s) (hb : Below w.heap.size w w') : ArAt w' base b TA TF s :=
  let ⟨fv, PF, hh⟩ := h
  ⟨fv, PF, hh.below hb⟩

theorem ArV.lt {w : World} {base : B9} {b : Nat} {TA TF : TypeId} {s : Ar} {fv : Value} {PF : List (Fl × Value)} (h : ArV w base b TA TF s fv PF) : b < w.heap.size := (Array.getElem?_eq_some_iff.1 h.head).1

theorem ArV.len {w : World} {base : B9} {b : Nat} {TA TF : TypeId} {s : Ar} {fv : Value} {PF : List (Fl × Value)} (h : ArV w base b TA TF s fv PF) : PF.length = s.l.length := by rw [h.list]; simp

theorem ArV.cells {w : World} {base : B9} {b : Nat} {TA TF : TypeId} {s : Ar} {fv : Value} {PF : List (Fl × Value)} (h : ArV w base b TA TF s fv PF) :
    w.cell? ⟨b, 0, none⟩ = some (.int .i64 (s.room : Int)) ∧ w.cell? ⟨b, 1, none⟩ = some (.int .u64 (s.last : Int)) ∧ w.cell? ⟨b, 2, none⟩ = some fv ∧ ∀ j, w.frozen? ⟨b, j, none⟩ = false :=
  ⟨(cell_of_row _ _ _ _ _ _ h.head).trans rfl, (cell_of_row _ _ _ _ _ _ h.head).trans rfl, (cell_of_row _ _ _ _ _ _ h.head).trans rfl, fun _ => frozen_of_row _ _ _ _ _ h.head⟩

/-- The row of those that fly: nil, or at a block's head. -/
theorem ArV.shape {w : World} {base : B9} {b : Nat} {TA TF : TypeId} {s : Ar} {fv : Value} {PF : List (Fl × Value)} (h : ArV w base b TA TF s fv PF) :
    ∃ a c, fv = .slice a s.l.length c ∧ s.l.length ≤ c ∧ c ≤ 9223372036854775807 := by
  obtain ⟨a, c, e, h1, h2⟩ := owns_slice h.row
  rw [h.len] at e h1
  exact ⟨a, c, e, h1, h2⟩

theorem fcells_get : ∀ (PF : List (Fl × Value)) (i j : Nat) (x : Fl × Value), PF[i]? = some x → j < 3 → (PF.flatMap fcells)[i * 3 + j]? = (fcells x)[j]?
  | [], i, j, x, h, _ => by simp at h
  | y :: r, 0, j, x, h, hj => by
    simp only [List.getElem?_cons_zero, Option.some.injEq] at h
    subst h
    rw [List.flatMap_cons, Nat.zero_mul, Nat.zero_add, List.getElem?_append_left (by simpa [fcells] using hj)]
  | y :: r, i + 1, j, x, h, hj => by
    rw [List.flatMap_cons, List.getElem?_append_right (by simp [fcells]; omega)]
    have := fcells_get r i j x (by simpa using h) hj
    rw [← this]
    congr 1
    simp [fcells]; omega

theorem fcells_len (PF : List (Fl × Value)) : (PF.flatMap fcells).length = PF.length * 3 := by
  induction PF with
  | nil => rfl
  | cons y r ih => rw [List.flatMap_cons, List.length_append, ih]; simp [fcells]; omega

/-- The cells of the i-th. -/
theorem ArV.fcell {w : World} {base : B9} {b : Nat} {TA TF : TypeId} {s : Ar} {g n cap : Nat} {PF : List (Fl × Value)} (h : ArV w base b TA TF s (.slice (some ⟨g, 0, none⟩) n cap) PF) {i : Nat} {x : Fl × Value} (hx : PF[i]? = some x) :
    w.cell? ⟨g, i * 3, none⟩ = some (.int .u64 (x.1.id : Int)) ∧ w.cell? ⟨g, i * 3 + 1, none⟩ = some (.int .i64 x.1.to) ∧ w.cell? ⟨g, i * 3 + 2, none⟩ = some x.2 := by
  have hc := fun j u (e : (PF.flatMap fcells)[j]? = some u) => World.ownsRow.cells h.row (g := g) rfl j u e
  have go := fun j (hj : j < 3) u (e : (fcells x)[j]? = some u) => hc (i * 3 + j) u ((fcells_get PF i j x hx hj).trans e)
  refine ⟨?_, ?_, ?_⟩
  · have := go 0 (by omega) _ rfl
    rwa [Addr.add_lit, Nat.zero_add, Nat.add_zero] at this
  · have := go 1 (by omega) _ rfl
    rwa [Addr.add_lit, Nat.zero_add] at this
  · have := go 2 (by omega) _ rfl
    rwa [Addr.add_lit, Nat.zero_add] at this

/-- Which blocks are which, by their types. -/
theorem ArV.apart {w : World} {base : B9} {b : Nat} {TA TF : TypeId} {s : Ar} {fv : Value} {PF : List (Fl × Value)} (h : ArV w base b TA TF s fv PF) (hne : TA ≠ TF) : ∀ k, fv.ownBlock = some k → k ≠ b := by
  intro k hk e
  obtain ⟨cur, hc⟩ := owns_ty h.row k hk
  rw [e, h.head] at hc
  simp only [Option.some.injEq, Obj.cells.injEq] at hc
  exact hne hc.2.1

/-- What writes the head and the row's block alone. -/
theorem ArV.ktS {S : Nat → Prop} {w w' : World} {base : B9} {b : Nat} {TA TF : TypeId} {s : Ar} {fv : Value} {PF : List (Fl × Value)} (h : ArV w base b TA TF s fv PF) (hk : Keeps S w w') (hS : ∀ k, k < w.heap.size → S k → k = b ∨ fv.ownBlock = some k) (hb : base.n ≤ w.heap.size) : KT [TA, TF] base.n w w' := by
  refine KT.of_keeps hk (fun k hlt hs => ?_) hb
  rcases hS k hlt hs with rfl | e
  · exact ⟨h.low, _, _, _, h.head, by simp⟩
  · obtain ⟨cur, hc⟩ := owns_ty h.row k e
    exact ⟨(World.ownsRow.lt h.row k e).1, _, _, _, hc, by simp⟩

end Go.Proofs.Ytecnopopmonlpaa
