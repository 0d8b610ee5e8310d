/-
  Slices of bools of the call's own; and the plain mathematics of the division.
-/
import Derived.Test.YtbagpckiegpalaaSum
namespace Go.Proofs.Ytbagpckiegpalaa
open Go.RowKit

/-- The slice of bools v reads as l, and lies at the head of a block of the call's own. -/
def OwnB (w : World) (base : Nat) (v : Value) (l : List Bool) : Prop := w.ownsRow base 4 1 v l.length (l.map Value.bool)

theorem OwnB.cell {w : World} {base g n cap : Nat} {l : List Bool} (h : OwnB w base (.slice (some ⟨g, 0, none⟩) n cap) l) (j : Nat) (hj : j < l.length) : w.cell? ⟨g, j, none⟩ = some (.bool (l.getD j false)) := by
  have hn : n = l.length := by
    rcases h.2 with ⟨e, _⟩ | ⟨_, _, _, e, _⟩
    · simp at e
    · simp only [Value.slice.injEq] at e; exact e.2.1
  subst hn
  rw [World.ownsRow.cellAt h j (by omega)]
  simp [List.getElem?_eq_getElem hj]

theorem OwnB.frozen {w : World} {base g n cap : Nat} {l : List Bool} (h : OwnB w base (.slice (some ⟨g, 0, none⟩) n cap) l) (j : Nat) : w.frozen? ⟨g, j, none⟩ = false := by
  have hn : n = l.length := by
    rcases h.2 with ⟨e, _⟩ | ⟨_, _, _, e, _⟩
    · simp at e
    · simp only [Value.slice.injEq] at e; exact e.2.1
  subst hn
  exact World.ownsRow.frozenAt h j

theorem OwnB.stored {w : World} {base g n cap : Nat} {l : List Bool} (h : OwnB w base (.slice (some ⟨g, 0, none⟩) n cap) l) (j : Nat) (b : Bool) :
    OwnB (w.setCell ⟨g, j, none⟩ (.bool b)) base (.slice (some ⟨g, 0, none⟩) n cap) (l.set j b) := by
  have hn : n = l.length := by
    rcases h.2 with ⟨e, _⟩ | ⟨_, _, _, e, _⟩
    · simp at e
    · simp only [Value.slice.injEq] at e; exact e.2.1
  subst hn
  have := (World.ownsRow.stored h j (.bool b)).1
  unfold OwnB
  rw [List.length_set, List.map_set]
  exact this

theorem OwnB.below {w w' : World} {base : Nat} {v : Value} {l : List Bool} (h : OwnB w base v l) (hb : Below w.heap.size w w') : OwnB w' base v l := by
  refine ⟨h.1, ?_⟩
  rcases h.2 with hn | ⟨g, cap, cur, rfl, hb', hgg, rest⟩
  · exact .inl hn
  · exact .inr ⟨g, cap, cur, rfl, hb', by rw [hb.block g (Array.getElem?_eq_some_iff.1 hgg).1]; exact hgg, rest⟩

theorem OwnB.lt {w : World} {base g n cap : Nat} {l : List Bool} (h : OwnB w base (.slice (some ⟨g, 0, none⟩) n cap) l) : base ≤ g ∧ g < w.heap.size := World.ownsRow.lt h g rfl

theorem Try.infoBool : (Try.prog.info? 4).map (fun i => (i.zero, i.size, i.bytes)) = some (some (.bool false), 1, 1) := by kernel_rfl

/-- So many times false (a plain name: the walk leaves it alone). -/
def nays (n : Nat) : List Bool := List.replicate n false
theorem nays_length (n : Nat) : (nays n).length = n := by unfold nays; simp
theorem nays_get (n k : Nat) : (nays n).getD k false = false := by
  unfold nays
  simp only [List.getD_eq_getElem?_getD, List.getElem?_replicate]
  split <;> rfl

/-- 'make([]bool, n)'. -/
theorem mkbools {w : World} {ops : Array Oper} {rest : List Oper} {o : Oper} {a : Act} {Q : Exit → Act → World → Prop} (hg : o.guard = none) (l c : Operand) (hop : o.op = Op.makeSlice 73 l c)
    (base : Nat) (kl kc : IntKind) (L C : Int) (n : Nat) (hl : a.eval l = .int kl L) (hc : a.eval c = .int kc C) (hL : L = (n : Int)) (hC : C = (n : Int)) (hn : n ≤ 281474976710656) (hb : base ≤ w.heap.size)
    (hK : ∀ w', OwnB w' base (.slice (some ⟨w.heap.size, 0, none⟩) n n) (nays n) → Below w.heap.size w w' → wpList Try.prog ops Q rest (a.put o.dst (.slice (some ⟨w.heap.size, 0, none⟩) n n)) w') :
    wpList Try.prog ops Q (o :: rest) a w := by
  obtain ⟨i, hi, hz0, hz1, hz2⟩ := info_parts Try.infoBool
  refine wpList_make_full w hg l c 73 hop base 4 i (.bool false) 1 Try.underlying73 hi hz0 hz1 kl kc L C n hl hc hL hC (by rw [hz2]; omega) (by unfold maxLen; omega) hb ?_
  intro w' h1 h2
  refine hK w' ?_ ⟨h2.os, h2.tape, h2.output, h2.size, fun k hk => h2.block k hk (by simp)⟩
  unfold OwnB
  rw [nays_length]
  have : (madeCells (Value.bool false).cells (n * 1)).toList = (nays n).map Value.bool := by
    rw [Nat.mul_one]
    show (madeCells #[Value.bool false] n).toList = _
    rw [toList_madeCells_one]
    unfold nays
    rw [List.map_replicate]
  rw [← this]
  exact h1

/-- A list of N bools that has the values f. -/
def Is (l : List Bool) (N : Nat) (f : Nat → Bool) : Prop := l.length = N ∧ ∀ k, k < N → l.getD k false = f k

theorem Is.set {l : List Bool} {N : Nat} {f : Nat → Bool} (h : Is l N f) (j : Nat) (b : Bool) (f' : Nat → Bool) (hj : j < N) (hf : ∀ k, k < N → f' k = if k = j then b else f k) : Is (l.set j b) N f' := by
  refine ⟨by rw [List.length_set]; exact h.1, fun k hk => ?_⟩
  rw [hf k hk]
  by_cases e : k = j
  · subst e
    simp [h.1, hj]
  · rw [if_neg e, ← h.2 k hk]
    simp only [List.getD_eq_getElem?_getD]
    rw [List.getElem?_set_ne (fun e' => e e'.symm)]

theorem Is.congr {l : List Bool} {N : Nat} {f f' : Nat → Bool} (h : Is l N f) (hf : ∀ k, k < N → f' k = f k) : Is l N f' := ⟨h.1, fun k hk => by rw [hf k hk]; exact h.2 k hk⟩

/-- The powers of the polynomial but 32. -/
def byL : List Nat := [0, 6, 8, 9, 10, 11, 13, 14, 18, 19, 20, 22, 23, 25, 26, 27, 28]

/-- Which places t of the powers turn, from i on. -/
def turns (i t k : Nat) : Bool := (byL.take t).foldl (fun acc b => acc ^^ decide (k = i + 32 - b)) false

theorem turns_succ (i t k : Nat) (h : t < 17) : turns i (t + 1) k = (turns i t k ^^ decide (k = i + 32 - byL.getD t 0)) := by
  unfold turns
  rw [List.take_succ_eq_append_getElem (show t < byL.length from h), List.foldl_append]
  simp only [List.foldl_cons, List.foldl_nil]
  congr 2
  simp [List.getElem?_eq_getElem (show t < byL.length from h)]

theorem turns_all (i k : Nat) : turns i 17 k = (decide (i < k) && Crc.poly.getLsbD (k - (i + 1))) := by
  by_cases h : i < k ∧ k < i + 33
  · obtain ⟨j, rfl⟩ : ∃ j, k = i + 1 + j := ⟨k - (i + 1), by omega⟩
    have hj : j < 32 := by omega
    have e : ∀ b, b ≤ 28 → decide (i + 1 + j = i + 32 - b) = decide (j = 31 - b) := by
      intro b hb
      by_cases c : j = 31 - b
      · rw [decide_eq_true c, decide_eq_true (by omega)]
      · rw [decide_eq_false c, decide_eq_false (by omega)]
    have h1 : turns i 17 (i + 1 + j) = byL.foldl (fun acc b => acc ^^ decide (j = 31 - b)) false := by
      unfold turns
      simp only [byL, List.take, List.foldl_cons, List.foldl_nil]
      rw [e 0 (by omega), e 6 (by omega), e 8 (by omega), e 9 (by omega), e 10 (by omega), e 11 (by omega), e 13 (by omega), e 14 (by omega), e 18 (by omega), e 19 (by omega), e 20 (by omega), e 22 (by omega), e 23 (by omega), e 25 (by omega), e 26 (by omega), e 27 (by omega), e 28 (by omega)]
    rw [h1, show i + 1 + j - (i + 1) = j by omega, decide_eq_true (show i < i + 1 + j by omega), Bool.true_and]
    have : ∀ x : Fin 32, byL.foldl (fun acc b => acc ^^ decide (x.val = 31 - b)) false = Crc.poly.getLsbD x.val := by decide
    exact this ⟨j, hj⟩
  · have h1 : turns i 17 k = false := by
      have e : ∀ b, b ≤ 28 → decide (k = i + 32 - b) = false := fun b hb => decide_eq_false (by omega)
      unfold turns
      simp only [byL, List.take, List.foldl_cons, List.foldl_nil]
      rw [e 0 (by omega), e 6 (by omega), e 8 (by omega), e 9 (by omega), e 10 (by omega), e 11 (by omega), e 13 (by omega), e 14 (by omega), e 18 (by omega), e 19 (by omega), e 20 (by omega), e 22 (by omega), e 23 (by omega), e 25 (by omega), e 26 (by omega), e 27 (by omega), e 28 (by omega)]
      rfl
    rw [h1]
    by_cases h2 : i < k
    · rw [BitVec.getLsbD_of_ge Crc.poly _ (by omega)]; simp
    · simp [h2]

/-- What stands at place k behind i rounds of the division (from place i on). -/
def divTo (p : List UInt8) (i k : Nat) : Bool := Crc.bitAt p k ^^ (decide (i ≤ k) && (Crc.run (Crc.bitAt p) i 0xffffffff#32).getLsbD (k - i))

theorem divTo_zero (p : List UInt8) (k : Nat) : divTo p 0 k = (Crc.bitAt p k ^^ decide (k < 32)) := by
  unfold divTo
  congr 1
  show (decide (0 ≤ k) && (0xffffffff#32).getLsbD (k - 0)) = _
  rw [show (0xffffffff#32) = BitVec.allOnes 32 from rfl, BitVec.getLsbD_allOnes]
  simp

/-- One round: if the bit at i is set the powers behind it turn. -/
theorem divTo_succ (p : List UInt8) (i k : Nat) (hk : i < k) : divTo p (i + 1) k = (divTo p i k ^^ (divTo p i i && turns i 17 k)) := by
  rw [turns_all]
  unfold divTo
  generalize hc : Crc.run (Crc.bitAt p) i 0xffffffff#32 = c
  have hs : Crc.run (Crc.bitAt p) (i + 1) 0xffffffff#32 = Crc.step c (Crc.bitAt p i) := by
    show Crc.step (Crc.run (Crc.bitAt p) i 0xffffffff#32) (Crc.bitAt p i) = _
    rw [hc]
  rw [hs]
  unfold Crc.step
  rw [Crc.bit_eq, BitVec.getLsbD_xor, BitVec.getLsbD_ushiftRight]
  have h0 : (c ^^^ (if Crc.bitAt p i = true then 1#32 else 0#32)).getLsbD 0 = (Crc.bitAt p i ^^ c.getLsbD 0) := by
    rw [BitVec.getLsbD_xor]
    cases Crc.bitAt p i <;> simp
  have h1 : (c ^^^ (if Crc.bitAt p i = true then 1#32 else 0#32)).getLsbD (1 + (k - (i + 1))) = c.getLsbD (k - i) := by
    rw [BitVec.getLsbD_xor, show 1 + (k - (i + 1)) = k - i by omega]
    obtain ⟨q, hq⟩ := Nat.exists_eq_succ_of_ne_zero (show k - i ≠ 0 by omega)
    rw [hq]
    cases Crc.bitAt p i <;> simp
  rw [h0, h1]
  rw [decide_eq_true (show i + 1 ≤ k by omega), decide_eq_true (show i ≤ k by omega), decide_eq_true hk, decide_eq_true (Nat.le_refl i), Nat.sub_self]
  simp only [Bool.true_and]
  cases Crc.bitAt p i <;> cases c.getLsbD 0 <;> simp

end Go.Proofs.Ytbagpckiegpalaa
