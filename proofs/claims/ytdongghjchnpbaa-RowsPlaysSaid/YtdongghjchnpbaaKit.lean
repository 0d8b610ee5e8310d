/-
  Words for the walks of this seat: bytes as values, a slice that reads as a list, a slice of the call's own, what a call leaves as it was.
-/
import Derived.Test.YtdongghjchnpbaaRows
import Derived.WalkKit
import Derived.WalkSpells
import Derived.WalkLawsBesides
import Derived.Laws.AppendOwnNone
import Derived.Laws.IdiomStrings
import Derived.OpenShut
import Derived.Lib.SlBytesConst
namespace Go.Proofs.Ytdongghjchnpbaa
open Go.RowKit

theorem hid {p : Prop} (h : p) : Hid p := h

theorem ret_int {k : IntKind} {a b : Int} (h : a = b) : Ending.returned (.int k a) = .returned (.int k b) := by rw [h]

/-- WHAT THE WALK IS TOLD OF A SLICE OF INTEGERS THAT CAME IN (the guide's shell's own words): it is nil; or it leads to a row of 'cap' cells, the numbers 'zs', each fitting its kind. -/
def IsRow (k : IntKind) (w : World) (a : Option Addr) (len cap : Nat) (zs : List Int) : Prop :=
  (a = none ∧ len = 0 ∧ cap = 0 ∧ zs = []) ∨
  ∃ x, a = some x ∧ len ≤ cap ∧ cap ≤ maxLen ∧ zs.length = cap ∧ (∀ i, i < zs.length → w.cell? (x.add i) = some (.int k (zs.getD i 0))) ∧ ∀ n ∈ zs, (Lit.int k n).wf = true

/-- A byte as a value. -/
def bv (b : UInt8) : Value := .int .u8 (b.toNat : Int)

theorem bv_eq (b : UInt8) : bv b = .int .u8 (b.toNat : Int) := rfl

/-- The slice value v reads as the list l. -/
def Rd (w : World) (v : Value) (l : List UInt8) : Prop :=
  ∃ a cap, v = .slice a l.length cap ∧ l.length ≤ cap ∧ cap ≤ maxLen ∧ (a = none → cap = 0) ∧ (∀ x, a = some x → ∀ j, j < l.length → w.cell? (x.add j) = some (bv (l.getD j 0)))

/-- The slice value v reads as l, and lies at the head of a block of the call's own, from base on. -/
def Own (w : World) (base : Nat) (v : Value) (l : List UInt8) : Prop := w.ownsRow base 5 1 v l.length (l.map bv)

theorem Rd.cases {w : World} {v : Value} {l : List UInt8} (h : Rd w v l) :
    (v = .slice none 0 0 ∧ l = []) ∨ ∃ x cap, v = .slice (some x) l.length cap ∧ l.length ≤ cap ∧ cap ≤ maxLen ∧ ∀ j, j < l.length → w.cell? (x.add j) = some (bv (l.getD j 0)) := by
  obtain ⟨a, cap, rfl, h1, h2, h3, h4⟩ := h
  cases a with
  | none =>
    have := h3 rfl
    subst this
    have hl : l = [] := List.eq_nil_of_length_eq_zero (by omega)
    subst hl
    exact .inl ⟨rfl, rfl⟩
  | some x => exact .inr ⟨x, cap, rfl, h1, h2, h4 x rfl⟩

theorem Rd.pos {w : World} {v : Value} {l : List UInt8} (h : Rd w v l) (hl : 0 < l.length) :
    ∃ b off cap, v = .slice (some ⟨b, off, none⟩) l.length cap ∧ l.length ≤ cap ∧ cap ≤ maxLen ∧ b < w.heap.size ∧ ∀ j, j < l.length → w.cell? ⟨b, off + j, none⟩ = some (bv (l.getD j 0)) := by
  rcases h.cases with ⟨rfl, rfl⟩ | ⟨x, cap, rfl, h1, h2, h4⟩
  · simp at hl
  · obtain ⟨b, off, spot⟩ := x
    have h0 := h4 0 hl
    have hs : spot = none := by simpa [Addr.add] using World.cell?_spot h0
    subst hs
    refine ⟨b, off, cap, rfl, h1, h2, ?_, fun j hj => ?_⟩
    · have := World.block_lt_of_cell? _ _ h0
      simpa [Addr.add] using this
    · have := h4 j hj
      rwa [Addr.add_lit] at this

theorem Rd.len {w : World} {v : Value} {l : List UInt8} (h : Rd w v l) : l.length ≤ maxLen := by
  obtain ⟨a, cap, _, h1, h2, _⟩ := h
  omega

theorem Rd.nil (w : World) : Rd w (.slice none 0 0) [] := ⟨none, 0, rfl, Nat.le_refl _, Nat.zero_le _, fun _ => rfl, fun _ h => by cases h⟩

/-- What came in, cut to its first k bytes, reads as a list. -/
theorem IsRow.rd {w : World} {a : Option Addr} {len cap : Nat} {zs : List Int} (h : IsRow .u8 w a len cap zs) (k : Nat) (hk : k ≤ len) : ∃ l, l.length = k ∧ Rd w (.slice a k cap) l := by
  rcases h with ⟨rfl, rfl, rfl, rfl⟩ | ⟨x, rfl, h1, h2, h3, h4, h5⟩
  · obtain rfl : k = 0 := by omega
    exact ⟨[], rfl, Rd.nil w⟩
  · refine ⟨(zs.take k).map fun n => UInt8.ofNat n.toNat, by simp; omega, ?_⟩
    have hl : ((zs.take k).map fun n => UInt8.ofNat n.toNat).length = k := by simp; omega
    refine ⟨some x, cap, by rw [hl], by omega, h2, (fun h => by cases h), fun y hy j hj => ?_⟩
    cases hy
    rw [hl] at hj
    rw [h4 j (by omega)]
    have hb := range_u8 h5 j
    have hz : zs[j]? = some (zs.getD j 0) := by simp [List.getElem?_eq_getElem (show j < zs.length by omega)]
    have hg : ((zs.take k).map fun n => UInt8.ofNat n.toNat).getD j 0 = UInt8.ofNat (zs.getD j 0).toNat := by
      simp [hj, List.getElem?_eq_getElem (show j < zs.length by omega)]
    rw [hg]
    rw [hz] at hb
    simp only [Option.getD_some] at hb
    unfold bv
    congr 2
    rw [UInt8.toNat_ofNat']
    omega

theorem IsRow.bounds {w : World} {a : Option Addr} {len cap : Nat} {zs : List Int} {k : IntKind} (h : IsRow k w a len cap zs) : len ≤ cap ∧ cap ≤ 9223372036854775807 ∧ (a = none → len = 0 ∧ cap = 0) := by
  rcases h with ⟨rfl, rfl, rfl, rfl⟩ | ⟨x, rfl, h1, h2, h3, h4, h5⟩
  · exact ⟨Nat.le_refl _, by omega, fun _ => ⟨rfl, rfl⟩⟩
  · unfold maxLen at h2
    exact ⟨h1, by omega, fun h => by cases h⟩

/-- A piece of what reads as l. -/
theorem Rd.part {w : World} {b off cap : Nat} {l : List UInt8} (hcap : l.length ≤ cap) (hm : cap ≤ 9223372036854775807) (hc : ∀ j, j < l.length → w.cell? ⟨b, off + j, none⟩ = some (bv (l.getD j 0)))
    (i n o c : Nat) (hin : i + n ≤ l.length) (ho : o = off + i) (hcc : c = cap - i) : Rd w (.slice (some ⟨b, o, none⟩) n c) ((l.drop i).take n) := by
  subst ho; subst hcc
  have hl : ((l.drop i).take n).length = n := by simp; omega
  refine ⟨_, cap - i, by rw [hl], by omega, by unfold maxLen; omega, (fun h => by cases h), fun x hx j hj => ?_⟩
  cases hx
  rw [hl] at hj
  rw [Addr.add_lit, Nat.add_assoc, hc (i + j) (by omega)]
  simp [hj]

/-- What reads the same in another world, cell by cell. -/
theorem Rd.to {w w' : World} {v : Value} {l : List UInt8} (h : Rd w v l) (hc : ∀ a : Addr, a.block < w.heap.size → w'.cell? a = w.cell? a) : Rd w' v l := by
  obtain ⟨a, cap, rfl, h1, h2, h3, h4⟩ := h
  refine ⟨a, cap, rfl, h1, h2, h3, fun x hx j hj => ?_⟩
  have := h4 x hx j hj
  rw [hc _ (World.block_lt_of_cell? _ _ this)]
  exact this

theorem Rd.below {w w' : World} {v : Value} {l : List UInt8} (h : Rd w v l) (hb : Below w.heap.size w w') : Rd w' v l :=
  h.to fun _ ha => hb.cell ha

theorem Rd.drew {w : World} {v : Value} {l : List UInt8} (h : Rd w v l) : Rd w.drew v l := h

theorem Rd.alloc {w : World} {v : Value} {l : List UInt8} (h : Rd w v l) (o : Obj) : Rd (w.alloc o) v l :=
  h.below ((Below.refl _ _).alloc (Nat.le_refl _) _)

theorem Own.rd {w : World} {base : Nat} {v : Value} {l : List UInt8} (h : Own w base v l) : Rd w v l := by
  rcases h.2 with ⟨rfl, hn⟩ | ⟨g, cap, cur, rfl, hb, hg, h1, h2, h3, h4⟩
  · have hl : l = [] := List.eq_nil_of_length_eq_zero hn
    subst hl
    exact Rd.nil w
  · refine ⟨_, cap, rfl, h1, h2, (fun h => by cases h), fun x hx j hj => ?_⟩
    cases hx
    rw [Addr.add_lit, Nat.zero_add]
    have hat := World.ownsRow.cellAt (w := w) (g := g) (cap := cap) (n := l.length) (xs := l.map bv) ⟨h.1, h.2⟩ j (by omega)
    rw [hat]
    simp [List.getElem?_map, List.getElem?_eq_getElem hj]

/-- Its shape: nil, or at the head of a block. -/
theorem Own.shape {w : World} {base : Nat} {v : Value} {l : List UInt8} (h : Own w base v l) :
    (v = .slice none 0 0 ∧ l = []) ∨ ∃ g cap, v = .slice (some ⟨g, 0, none⟩) l.length cap ∧ base ≤ g ∧ g < w.heap.size ∧ l.length ≤ cap ∧ cap ≤ maxLen := by
  rcases h.2 with ⟨rfl, hn⟩ | ⟨g, cap, cur, rfl, hb, hg, h1, h2, h3, h4⟩
  · exact .inl ⟨rfl, List.eq_nil_of_length_eq_zero hn⟩
  · exact .inr ⟨g, cap, rfl, hb, (Array.getElem?_eq_some_iff.1 hg).1, h1, h2⟩

theorem Own.nil (w : World) (base : Nat) : Own w base (.slice none 0 0) [] := World.ownsRow_nil _ _ _ _

/-- A slice of no bytes in a new block. -/
theorem Own.empty (w : World) (base : Nat) (hb : base ≤ w.heap.size) : Own (w.alloc (.cells #[] 5)) base (.slice (some ⟨w.heap.size, 0, none⟩) 0 0) [] :=
  World.ownsRow_made w #[] 0 hb (Nat.zero_le _) rfl

theorem Own.to {w w' : World} {base : Nat} {v : Value} {l : List UInt8} (h : Own w base v l) (hc : ∀ k, v.ownBlock = some k → w'.heap[k]? = w.heap[k]?) : Own w' base v l := by
  refine ⟨h.1, ?_⟩
  rcases h.2 with hn | ⟨g, cap, cur, rfl, hb, hgg, rest⟩
  · exact .inl hn
  · exact .inr ⟨g, cap, cur, rfl, hb, by rw [hc g rfl]; exact hgg, rest⟩

theorem Own.base {w : World} {b b' : Nat} {v : Value} {l : List UInt8} (h : Own w b v l) (hb : ∀ k, v.ownBlock = some k → b' ≤ k) : Own w b' v l := by
  refine ⟨h.1, ?_⟩
  rcases h.2 with hn | ⟨g, cap, cur, rfl, _, hgg, rest⟩
  · exact .inl hn
  · exact .inr ⟨g, cap, cur, rfl, hb g rfl, hgg, rest⟩

theorem Own.lt {w : World} {base : Nat} {v : Value} {l : List UInt8} (h : Own w base v l) : ∀ k, v.ownBlock = some k → base ≤ k ∧ k < w.heap.size := World.ownsRow.lt h

theorem Own.below {w w' : World} {base : Nat} {v : Value} {l : List UInt8} (h : Own w base v l) (hb : Below w.heap.size w w') : Own w' base v l :=
  h.to fun k hk => hb.block k (h.lt k hk).2

theorem Own.alloc {w : World} {base : Nat} {v : Value} {l : List UInt8} (h : Own w base v l) (o : Obj) : Own (w.alloc o) base v l :=
  h.below ((Below.refl _ _).alloc (Nat.le_refl _) _)

/-- A new block of one byte: what 'append(s, b)' appends. -/
theorem Rd.one (w : World) (n : Int) (b : UInt8) (h : n = (b.toNat : Int)) : Rd (w.alloc (.cells #[.int .u8 n] 5)) (.slice (some ⟨w.heap.size, 0, none⟩) 1 1) [b] := by
  refine ⟨_, 1, rfl, Nat.le_refl _, by unfold maxLen; omega, (fun h => by cases h), fun x hx j hj => ?_⟩
  cases hx
  have hj0 : j = 0 := by simpa using hj
  subst hj0; subst h
  simp [Addr.add, bv]

/-- A new block of given bytes. -/
theorem Rd.lit (w : World) (cs : Array Value) (fr : Nat × Nat) (l : List UInt8) (k : Nat) (hk : k = l.length) (h : cs.toList = l.map bv) (hm : l.length ≤ maxLen) : Rd (w.alloc (.cells cs 5 fr)) (.slice (some ⟨w.heap.size, 0, none⟩) k k) l := by
  subst hk
  refine ⟨_, l.length, rfl, Nat.le_refl _, hm, (fun h => by cases h), fun x hx j hj => ?_⟩
  cases hx
  rw [Addr.add_lit, Nat.zero_add, cell_of_row _ _ _ _ _ _ (heap_alloc_new w _)]
  have : cs[j]? = (l.map bv)[j]? := by rw [← h]; simp
  rw [this]
  simp [List.getElem?_eq_getElem hj]

/-- A new block of two bytes. -/
theorem Rd.two (w : World) (n m : Int) (a b : UInt8) (hn : n = (a.toNat : Int)) (hm : m = (b.toNat : Int)) : Rd (w.alloc (.cells #[.int .u8 n, .int .u8 m] 5)) (.slice (some ⟨w.heap.size, 0, none⟩) 2 2) [a, b] := by
  subst hn; subst hm
  exact Rd.lit w _ (0, 0) [a, b] 2 rfl rfl (by unfold maxLen; simp)

/-- WHAT A CALL LEAVES AS IT WAS: all blocks that were there, but those of S. -/
structure Keeps (S : Nat → Prop) (w w' : World) : Prop where
  os : w'.os = w.os
  tape : w'.tape = w.tape
  output : w'.output = w.output
  size : w.heap.size ≤ w'.heap.size
  block : ∀ k, k < w.heap.size → ¬ S k → w'.heap[k]? = w.heap[k]?

theorem Keeps.refl (S : Nat → Prop) (w : World) : Keeps S w w := ⟨rfl, rfl, rfl, Nat.le_refl _, fun _ _ _ => rfl⟩
theorem Keeps.trans {S : Nat → Prop} {a b c : World} (h : Keeps S a b) (k : Keeps S b c) : Keeps S a c :=
  ⟨k.os.trans h.os, k.tape.trans h.tape, k.output.trans h.output, Nat.le_trans h.size k.size, fun i hi hs => (k.block i (Nat.lt_of_lt_of_le hi h.size) hs).trans (h.block i hi hs)⟩
/-- Two steps; the second may also write what the first has made. -/
theorem Keeps.trans' {S T : Nat → Prop} {a b c : World} (h : Keeps S a b) (k : Keeps T b c) (hT : ∀ i, i < a.heap.size → T i → S i) : Keeps S a c :=
  ⟨k.os.trans h.os, k.tape.trans h.tape, k.output.trans h.output, Nat.le_trans h.size k.size, fun i hi hs => (k.block i (Nat.lt_of_lt_of_le hi h.size) (fun ht => hs (hT i hi ht))).trans (h.block i hi hs)⟩
theorem Keeps.mono {S T : Nat → Prop} {w w' : World} (h : Keeps S w w') (hs : ∀ i, i < w.heap.size → S i → T i) : Keeps T w w' :=
  ⟨h.os, h.tape, h.output, h.size, fun i hi ht => h.block i hi fun hi' => ht (hs i hi hi')⟩
theorem Keeps.of_below {S : Nat → Prop} {w w' : World} {B : Nat} (h : Below B w w') (hs : ∀ i, i < w.heap.size → B ≤ i → S i) : Keeps S w w' :=
  ⟨h.os, h.tape, h.output, h.size, fun i hi hn => h.block i (by
    rcases Nat.lt_or_ge i B with hlt | hge
    · exact hlt
    · exact absurd (hs i hi hge) hn)⟩
theorem Keeps.of_grown {w w' : World} {row : Option Nat} (h : w.grownBy w' row) : Keeps (fun k => row = some k) w w' :=
  ⟨h.os, h.tape, h.output, h.size, fun i hi hn => h.block i hi fun e => hn e.symm⟩
theorem Keeps.below {S : Nat → Prop} {w w' : World} {B : Nat} (h : Keeps S w w') (hB : B ≤ w.heap.size) (hs : ∀ i, S i → B ≤ i) : Below B w w' :=
  ⟨h.os, h.tape, h.output, h.size, fun i hi => h.block i (by omega) fun hi' => by have := hs i hi'; omega⟩
theorem Keeps.alloc {S : Nat → Prop} {a w : World} (h : Keeps S a w) (o : Obj) : Keeps S a (w.alloc o) :=
  h.trans' (T := fun _ => False) ⟨rfl, rfl, rfl, by simp, fun k hk _ => Below.heap_alloc _ _ _ hk⟩ (fun _ _ h => h.elim)
theorem Keeps.drew {S : Nat → Prop} {a w : World} (h : Keeps S a w) : Keeps S a w.drew := ⟨h.os, h.tape, h.output, h.size, h.block⟩
theorem Keeps.setCell {S : Nat → Prop} {a w : World} (h : Keeps S a w) {p : Addr} (hp : p.block < a.heap.size → S p.block) (u : Value) : Keeps S a (w.setCell p u) :=
  h.trans' (T := fun k => k = p.block) ⟨rfl, rfl, rfl, by simp [World.setCell], fun k _ hn => Below.heap_setCell _ _ _ _ hn⟩ (fun i hi e => by subst e; exact hp hi)
theorem Keeps.cell {S : Nat → Prop} {w w' : World} (h : Keeps S w w') {p : Addr} (hp : p.block < w.heap.size) (hn : ¬ S p.block) : w'.cell? p = w.cell? p := World.cell?_of_block (w := w) (h.block p.block hp hn)
theorem Keeps.frozen {S : Nat → Prop} {w w' : World} (h : Keeps S w w') {p : Addr} (hp : p.block < w.heap.size) (hn : ¬ S p.block) : w'.frozen? p = w.frozen? p := World.frozen?_of_block (w := w) (h.block p.block hp hn)

theorem Own.keeps {S : Nat → Prop} {w w' : World} {base : Nat} {v : Value} {l : List UInt8} (h : Own w base v l) (hk : Keeps S w w') (hn : ∀ k, v.ownBlock = some k → ¬ S k) : Own w' base v l :=
  h.to fun k hv => hk.block k (h.lt k hv).2 (hn k hv)

/-- Behind an append onto a slice of the call's own. -/
theorem Own.grown {a w w' : World} {B base : Nat} {v : Value} {l : List UInt8} (h : Own w base v l) (hb : Below B a w) (hg : w.grownBy w' v.ownBlock) (h1 : B ≤ base) (h2 : B ≤ w.heap.size) : Below B a w' :=
  hb.grown hg h2 fun k hk => Nat.le_trans h1 (h.lt k hk).1

theorem Try.infoU8 : (Try.prog.info? 5).map (fun i => (i.zero, i.size, i.bytes)) = some (some (.int .u8 0), 1, 1) := by kernel_rfl

/-- So many noughts (a plain name: the walk leaves it alone). -/
def zeros (n : Nat) : List UInt8 := List.replicate n 0
theorem zeros_length (n : Nat) : (zeros n).length = n := by unfold zeros; simp

/-- A block of given bytes is the call's own. -/
theorem Own.lit (w : World) (base : Nat) (cs : Array Value) (l : List UInt8) (k : Nat) (hk : k = l.length) (h : cs.toList = l.map bv) (hm : l.length ≤ maxLen) (hb : base ≤ w.heap.size) :
    Own (w.alloc (.cells cs 5)) base (.slice (some ⟨w.heap.size, 0, none⟩) k k) l := by
  subst hk
  have hs : cs.size = l.length * 1 := by
    have := congrArg List.length h
    simpa using this
  have := World.ownsRow_lit w (e := 5) (size := 1) cs l.length hb hm hs
  unfold Own
  rw [← h]
  exact this

theorem Own.caps {w : World} {base : Nat} {ad : Option Addr} {n cap : Nat} {l : List UInt8} (h : Own w base (.slice ad n cap) l) : n = l.length ∧ n ≤ cap ∧ cap ≤ 9223372036854775807 := by
  rcases h.shape with ⟨e, rfl⟩ | ⟨g, cp, e, _, _, h1, h2⟩
  · cases e; exact ⟨rfl, Nat.le_refl _, by omega⟩
  · cases e
    unfold maxLen at h2
    exact ⟨rfl, h1, by omega⟩

theorem Own.cell {w : World} {base g n cap : Nat} {l : List UInt8} (h : Own w base (.slice (some ⟨g, 0, none⟩) n cap) l) (j : Nat) (hj : j < l.length) : w.cell? ⟨g, j, none⟩ = some (bv (l.getD j 0)) := by
  obtain ⟨a, cp, e, _, _, _, h4⟩ := h.rd
  simp only [Value.slice.injEq] at e
  obtain ⟨rfl, _, rfl⟩ := e
  have := h4 _ rfl j hj
  rwa [Addr.add_lit, Nat.zero_add] at this

/-- What was written ahead of a place reads as it is. -/
theorem Own.front {w : World} {base g n cap : Nat} {l m : List UInt8} (h : Own w base (.slice (some ⟨g, 0, none⟩) n cap) (l ++ m)) : Rd w (.slice (some ⟨g, 0, none⟩) l.length cap) l := by
  have hc := h.caps
  rw [List.length_append] at hc
  refine ⟨_, cap, rfl, by omega, by unfold maxLen; omega, (fun h => by cases h), fun x hx j hj => ?_⟩
  cases hx
  rw [Addr.add_lit, Nat.zero_add, h.cell j (by rw [List.length_append]; omega)]
  simp [List.getElem?_append_left hj]

theorem Own.frozen {w : World} {base g n cap : Nat} {l : List UInt8} (h : Own w base (.slice (some ⟨g, 0, none⟩) n cap) l) (j : Nat) : w.frozen? ⟨g, j, none⟩ = false := by
  obtain ⟨rfl, _, _⟩ := h.caps
  exact World.ownsRow.frozenAt h j

/-- A STORE into a slice of the call's own. -/
theorem Own.stored {w : World} {base g n cap : Nat} {l : List UInt8} (h : Own w base (.slice (some ⟨g, 0, none⟩) n cap) l) (j : Nat) (b : UInt8) (z : Int) (hz : z = (b.toNat : Int)) :
    Own (w.setCell ⟨g, j, none⟩ (.int .u8 z)) base (.slice (some ⟨g, 0, none⟩) n cap) (l.set j b) := by
  obtain ⟨rfl, _, _⟩ := h.caps
  subst hz
  have := (World.ownsRow.stored h j (bv b)).1
  unfold Own
  rw [List.length_set, List.map_set]
  exact this

end Go.Proofs.Ytdongghjchnpbaa
