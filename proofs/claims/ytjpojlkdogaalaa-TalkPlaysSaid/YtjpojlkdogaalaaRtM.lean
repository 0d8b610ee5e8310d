/-
  Layer 10: the document's end of a talk, over the same plain state.
-/
import Derived.Test.YtjpojlkdogaalaaTalkR
namespace Go.Proofs.Ytjpojlkdogaalaa
open Go.RowKit
set_option linter.unusedVariables false
set_option linter.unusedSimpArgs false

abbrev RT : TypeId := 53
/-- What its calls may write. -/
abbrev refTs : List TypeId := [53, 29, 3]

def rtold (x : Th × Value) : Value := .int .i64 (x.1.told : Int)

structure RtV (w : World) (base : B9) (b : Nat) (s : Tk) (sv tv : Value) (PF : List (Th × Value)) : Prop where
  head : w.heap[b]? = some (.cells #[.int .u8 s.node, .int .u32 s.epoch, .int .u32 s.life, sv, tv, .int .i64 (s.clock : Int), .int .i64 (s.done : Int), .int .u32 (s.heard : Int)] 53 (0, 0))
  said : w.ownsRow base.n 29 1 sv PF.length (PF.map (·.2))
  told : w.ownsRow base.n 3 1 tv PF.length (PF.map rtold)
  list : s.all = PF.map (·.1)
  own : ∀ x ∈ PF, Own w base.n x.2 x.1.t
  low : base.n ≤ b
  ok : s.ok
  far : ∀ x ∈ PF, ∀ k, x.2.ownBlock = some k → base.P k

def RtAt (w : World) (base : B9) (b : Nat) (s : Tk) : Prop := ∃ sv tv PF, RtV w base b s sv tv PF

theorem RtV.kt {ts : List TypeId} {b0 : Nat} {w w' : World} {base : B9} {b : Nat} {s : Tk} {sv tv : Value} {PF : List (Th × Value)} (h : RtV w base b s sv tv PF) (hk : KT ts b0 w w') (h1 : 53 ∉ ts) (h2 : 29 ∉ ts) (h3 : 3 ∉ ts) (h4 : 5 ∉ ts) : RtV w' base b s sv tv PF :=
  ⟨hk.block h.head h1, owns_kt h.said hk h2, owns_kt h.told hk h3, h.list, fun x hx => (h.own x hx).kt hk h4, h.low, h.ok, h.far⟩

theorem RtAt.kt {ts : List TypeId} {b0 : Nat} {w w' : World} {base : B9} {b : Nat} {s : Tk} (h : RtAt w base b s) (hk : KT ts b0 w w') (h1 : 53 ∉ ts) (h2 : 29 ∉ ts) (h3 : 3 ∉ ts) (h4 : 5 ∉ ts) : RtAt w' base b s :=
  let ⟨sv, tv, PF, hh⟩ := h
  ⟨sv, tv, PF, hh.kt hk h1 h2 h3 h4⟩

theorem RtV.below {w w' : World} {base : B9} {b : Nat} {s : Tk} {sv tv : Value} {PF : List (Th × Value)} (h : RtV w base b s sv tv PF) (hb : Below w.heap.size w w') : RtV w' base b s sv tv PF :=
  h.kt (KT.of_below (ts := []) hb (Nat.le_refl _)) (by simp) (by simp) (by simp) (by simp)

theorem RtAt.below {w w' : World} {base : B9} {b : Nat} {s : Tk} (h : RtAt w base b s) (hb : Below w.heap.size w w') : RtAt w' base b s :=
  let ⟨sv, tv, PF, hh⟩ := h
  ⟨sv, tv, PF, hh.below hb⟩

theorem RtV.lt {w : World} {base : B9} {b : Nat} {s : Tk} {sv tv : Value} {PF : List (Th × Value)} (h : RtV w base b s sv tv PF) : b < w.heap.size := (Array.getElem?_eq_some_iff.1 h.head).1

theorem RtV.len {w : World} {base : B9} {b : Nat} {s : Tk} {sv tv : Value} {PF : List (Th × Value)} (h : RtV w base b s sv tv PF) : PF.length = s.all.length := by rw [h.list]; simp

theorem RtV.cells {w : World} {base : B9} {b : Nat} {s : Tk} {sv tv : Value} {PF : List (Th × Value)} (h : RtV w base b s sv tv PF) :
    w.cell? ⟨b, 0, none⟩ = some (.int .u8 s.node) ∧ w.cell? ⟨b, 1, none⟩ = some (.int .u32 s.epoch) ∧ w.cell? ⟨b, 2, none⟩ = some (.int .u32 s.life) ∧ w.cell? ⟨b, 3, none⟩ = some sv ∧ w.cell? ⟨b, 4, none⟩ = some tv ∧ w.cell? ⟨b, 5, none⟩ = some (.int .i64 (s.clock : Int)) ∧ w.cell? ⟨b, 6, none⟩ = some (.int .i64 (s.done : Int)) ∧ w.cell? ⟨b, 7, none⟩ = some (.int .u32 (s.heard : Int)) ∧ ∀ j, w.frozen? ⟨b, j, none⟩ = false :=
  ⟨(cell_of_row _ _ _ _ _ _ h.head).trans rfl, (cell_of_row _ _ _ _ _ _ h.head).trans rfl, (cell_of_row _ _ _ _ _ _ h.head).trans rfl, (cell_of_row _ _ _ _ _ _ h.head).trans rfl, (cell_of_row _ _ _ _ _ _ h.head).trans rfl, (cell_of_row _ _ _ _ _ _ h.head).trans rfl, (cell_of_row _ _ _ _ _ _ h.head).trans rfl, (cell_of_row _ _ _ _ _ _ h.head).trans rfl, fun _ => frozen_of_row _ _ _ _ _ h.head⟩

theorem RtV.shapes {w : World} {base : B9} {b : Nat} {s : Tk} {sv tv : Value} {PF : List (Th × Value)} (h : RtV w base b s sv tv PF) :
    (∃ a c, sv = .slice a s.all.length c ∧ s.all.length ≤ c ∧ c ≤ 9223372036854775807) ∧ (∃ a c, tv = .slice a s.all.length c ∧ s.all.length ≤ c ∧ c ≤ 9223372036854775807) := by
  obtain ⟨a, c, e, h1, h2⟩ := owns_slice h.said
  obtain ⟨a', c', e', h1', h2'⟩ := owns_slice h.told
  rw [h.len] at e h1 e' h1'
  exact ⟨⟨a, c, e, h1, h2⟩, ⟨a', c', e', h1', h2'⟩⟩

/-- Blocks of unlike types. -/
theorem ty_ne {w : World} {k m : Nat} {c c' : Array Value} {t t' : TypeId} {fr fr' : Nat × Nat} (h : w.heap[k]? = some (.cells c t fr)) (h' : w.heap[m]? = some (.cells c' t' fr')) (ht : t ≠ t') : k ≠ m := by
  intro e
  rw [e, h'] at h
  simp only [Option.some.injEq, Obj.cells.injEq] at h
  exact ht h.2.1.symm

/-- The head is written anew, and nothing else. -/
theorem RtV.head' {w w' : World} {base : B9} {b : Nat} {s s' : Tk} {sv tv : Value} {PF : List (Th × Value)} (h : RtV w base b s sv tv PF) (hk : Keeps (fun k => k = b) w w')
    (hh : w'.heap[b]? = some (.cells #[.int .u8 s'.node, .int .u32 s'.epoch, .int .u32 s'.life, sv, tv, .int .i64 (s'.clock : Int), .int .i64 (s'.done : Int), .int .u32 (s'.heard : Int)] 53 (0, 0))) (hl : s'.all = s.all) (hok : s'.ok) : RtV w' base b s' sv tv PF := by
  have ne : ∀ {e : TypeId} {k' : Nat} {v : Value} {n : Nat} {xs : List Value} {m : Nat}, w.ownsRow m e k' v n xs → e ≠ 53 → ∀ k, v.ownBlock = some k → w'.heap[k]? = w.heap[k]? := fun ho he k hk' => by
    obtain ⟨cur, hc⟩ := owns_ty ho k hk'
    exact hk.block k (World.ownsRow.lt ho k hk').2 (ty_ne hc h.head he)
  exact ⟨hh, owns_by h.said (ne h.said (by decide)), owns_by h.told (ne h.told (by decide)), hl.trans h.list, fun x hx => owns_by (h.own x hx) (ne (h.own x hx) (by decide)), h.low, hok, h.far⟩

/-- What writes its own blocks alone. -/
theorem RtV.ktS {S : Nat → Prop} {w w' : World} {base : B9} {b : Nat} {s : Tk} {sv tv : Value} {PF : List (Th × Value)} (h : RtV w base b s sv tv PF) (hk : Keeps S w w') (hS : ∀ k, k < w.heap.size → S k → k = b ∨ sv.ownBlock = some k ∨ tv.ownBlock = some k) (hb : base.n ≤ w.heap.size) : KT refTs base.n w w' := by
  refine KT.of_keeps hk (fun k hlt hs => ?_) hb
  rcases hS k hlt hs with rfl | e | e
  · exact ⟨h.low, _, _, _, h.head, by simp⟩
  · obtain ⟨cur, hc⟩ := owns_ty h.said k e
    exact ⟨(World.ownsRow.lt h.said k e).1, _, _, _, hc, by simp⟩
  · obtain ⟨cur, hc⟩ := owns_ty h.told k e
    exact ⟨(World.ownsRow.lt h.told k e).1, _, _, _, hc, by simp⟩

/-- One of what was said. -/
theorem RtV.nth {w : World} {base : B9} {b g n c : Nat} {s : Tk} {tv : Value} {PF : List (Th × Value)} (h : RtV w base b s (.slice (some ⟨g, 0, none⟩) n c) tv PF) {i : Nat} {x : Th} (hx : s.all[i]? = some x) :
    ∃ va vc, w.cell? ⟨g, i, none⟩ = some (.slice va x.t.length vc) ∧ Own w base.n (.slice va x.t.length vc) x.t ∧ x.t.length ≤ 1984 := by
  rw [h.list, List.getElem?_map] at hx
  cases hp : PF[i]? with
  | none => rw [hp] at hx; cases hx
  | some y =>
    rw [hp] at hx
    simp only [Option.map_some, Option.some.injEq] at hx
    have hm := List.mem_of_getElem? hp
    have ho := h.own y hm
    obtain ⟨va, vc, ev⟩ := rd_sl ho.rd
    subst hx
    refine ⟨va, vc, ?_, by rw [ev] at ho; exact ho, (h.ok.2.2.2.2.2 y.1 (by rw [h.list]; exact List.mem_map.2 ⟨y, hm, rfl⟩)).2⟩
    have := World.ownsRow.cells h.said (g := g) rfl i y.2 (by rw [List.getElem?_map, hp]; rfl)
    rw [Addr.add_lit, Nat.zero_add] at this
    rw [this, ev]

theorem RtV.toldAt {w : World} {base : B9} {b g n c : Nat} {s : Tk} {sv : Value} {PF : List (Th × Value)} (h : RtV w base b s sv (.slice (some ⟨g, 0, none⟩) n c) PF) {i : Nat} {x : Th} (hx : s.all[i]? = some x) :
    w.cell? ⟨g, i, none⟩ = some (.int .i64 (x.told : Int)) := by
  rw [h.list, List.getElem?_map] at hx
  cases hp : PF[i]? with
  | none => rw [hp] at hx; cases hx
  | some y =>
    rw [hp] at hx
    simp only [Option.map_some, Option.some.injEq] at hx
    subst hx
    have := World.ownsRow.cells h.told (g := g) rfl i (rtold y) (by rw [List.getElem?_map, hp]; rfl)
    rw [Addr.add_lit, Nat.zero_add] at this
    exact this

theorem RtAt.far' {w : World} {base : B9} {b : Nat} {s : Tk} (h : RtAt w base b s) (P : Nat → Prop) (hP : ∀ k, k < w.heap.size → base.P k → P k) : RtAt w ⟨base.n, P, base.Q⟩ b s := by
  obtain ⟨sv, tv, PF, hh⟩ := h
  exact ⟨sv, tv, PF, hh.head, hh.said, hh.told, hh.list, hh.own, hh.low, hh.ok, fun x hx k hk => hP k ((hh.own x hx).lt k hk).2 (hh.far x hx k hk)⟩

theorem rtv_new (w : World) (base : B9) (node epoch life : Int) (hb : base.n ≤ w.heap.size) : RtV (w.alloc (.cells #[.int .u8 node, .int .u32 epoch, .int .u32 life, .slice none 0 0, .slice none 0 0, .int .i64 0, .int .i64 0, .int .u32 0] 53)) base w.heap.size (Tk.new node epoch life) (.slice none 0 0) (.slice none 0 0) [] :=
  ⟨heap_alloc_new w _, World.ownsRow_nil _ _ _ _, World.ownsRow_nil _ _ _ _, rfl, (fun x hx => by cases hx), hb, ⟨Nat.le_refl _, Nat.zero_le _, Nat.zero_le _, Nat.zero_le _, Nat.zero_le _, (fun x hx => by cases hx)⟩, (fun x hx => by cases hx)⟩

set_option maxHeartbeats 1000000 in
theorem refnew_any (node epoch life : Int) (w : World) (base : B9) (hb : base.n ≤ w.heap.size) :
    Calls Try.prog 11 #[.int .u8 node, .int .u32 epoch, .int .u32 life] w fun e w' => e = .returned (.pointer (some ⟨w.heap.size, 0, none⟩)) ∧ RtAt w' base w.heap.size (Tk.new node epoch life) ∧ Below w.heap.size w w' := by
  go_enter Try.func11, Try.ntmps11
  go_wp2
  go_ret
  exact ⟨rfl, ⟨_, _, _, rtv_new w base node epoch life hb⟩, (Below.refl _ _).alloc (Nat.le_refl _) _⟩

end Go.Proofs.Ytjpojlkdogaalaa
