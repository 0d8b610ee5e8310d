/-
  Layer 10: an end of a talk, plain; where it lies.
-/
import Derived.Test.YtjpojlkdogaalaaKeepT
namespace Go.Proofs.Ytjpojlkdogaalaa
open Go.RowKit
set_option linter.unusedVariables false

theorem rd_sl {w : World} {v : Value} {l : List UInt8} (h : Rd w v l) : ∃ a c, v = .slice a l.length c :=
  let ⟨a, c, e, _⟩ := h
  ⟨a, c, e⟩

/-- What was said: its bytes, and when it was told last. -/
structure Th where
  t : List UInt8
  told : Nat

/-- An end: all that was said, how many of it are answered, how many came. -/
structure Tk where
  node : Int
  epoch : Int
  life : Int
  all : List Th
  done : Nat
  heard : Nat
  clock : Nat

def Tk.l (s : Tk) : List Th := s.all.drop s.done

def tcells (x : Th × Value) : List Value := [x.2, .int .u64 (x.1.told : Int)]

def Tk.ok (s : Tk) : Prop := s.done ≤ s.all.length ∧ s.all.length ≤ 1000000 ∧ s.all.length ≤ s.done + 256 ∧ s.heard ≤ 1000000 ∧ s.clock ≤ 1000000 ∧ ∀ x ∈ s.all, x.told ≤ s.clock ∧ x.t.length ≤ 1984

/-- Where its blocks lie: from n on; the bytes where P says, the head and the row where Q says. -/
structure B9 where
  n : Nat
  P : Nat → Prop
  Q : Nat → Prop

instance : Coe Nat B9 := ⟨fun n => ⟨n, fun _ => True, fun _ => True⟩⟩

abbrev TT : TypeId := 73
abbrev TE : TypeId := 76
abbrev talkTs : List TypeId := [73, 76]

structure TkV (w : World) (base : B9) (b : Nat) (s : Tk) (fv : Value) (PF : List (Th × Value)) : Prop where
  head : w.heap[b]? = some (.cells #[.int .u8 s.node, .int .u32 s.epoch, .int .u32 s.life, .int .u32 (s.heard : Int), .int .u32 (s.all.length : Int), fv, .int .u64 (s.clock : Int)] 73 (0, 0))
  row : w.ownsRow base.n 76 2 fv PF.length (PF.flatMap tcells)
  list : s.l = PF.map (·.1)
  own : ∀ x ∈ PF, Own w base.n x.2 x.1.t
  low : base.n ≤ b
  ok : s.ok
  far : ∀ x ∈ PF, ∀ k, x.2.ownBlock = some k → base.P k
  loc : ∀ k, (k = b ∨ fv.ownBlock = some k) → base.Q k

def TkAt (w : World) (base : B9) (b : Nat) (s : Tk) : Prop := ∃ fv PF, TkV w base b s fv PF

theorem TkV.kt {ts : List TypeId} {b0 : Nat} {w w' : World} {base : B9} {b : Nat} {s : Tk} {fv : Value} {PF : List (Th × Value)} (h : TkV w base b s fv PF) (hk : KT ts b0 w w') (h1 : 73 ∉ ts) (h2 : 76 ∉ ts) (h3 : 5 ∉ ts) : TkV w' base b s fv PF :=
  ⟨hk.block h.head h1, owns_kt h.row hk h2, h.list, fun x hx => (h.own x hx).kt hk h3, h.low, h.ok, h.far, h.loc⟩

theorem TkAt.kt {ts : List TypeId} {b0 : Nat} {w w' : World} {base : B9} {b : Nat} {s : Tk} (h : TkAt w base b s) (hk : KT ts b0 w w') (h1 : 73 ∉ ts) (h2 : 76 ∉ ts) (h3 : 5 ∉ ts) : TkAt w' base b s :=
  let ⟨fv, PF, hh⟩ := h
  ⟨fv, PF, hh.kt hk h1 h2 h3⟩

theorem TkV.below {w w' : World} {base : B9} {b : Nat} {s : Tk} {fv : Value} {PF : List (Th × Value)} (h : TkV w base b s fv PF) (hb : Below w.heap.size w w') : TkV w' base b s fv PF :=
  h.kt (KT.of_below (ts := []) hb (Nat.le_refl _)) (by simp) (by simp) (by simp)

theorem TkAt.below {w w' : World} {base : B9} {b : Nat} {s : Tk} (h : TkAt w base b s) (hb : Below w.heap.size w w') : TkAt w' base b s :=
  let ⟨fv, PF, hh⟩ := h
  ⟨fv, PF, hh.below hb⟩

theorem TkV.lt {w : World} {base : B9} {b : Nat} {s : Tk} {fv : Value} {PF : List (Th × Value)} (h : TkV w base b s fv PF) : b < w.heap.size := (Array.getElem?_eq_some_iff.1 h.head).1

theorem TkV.len {w : World} {base : B9} {b : Nat} {s : Tk} {fv : Value} {PF : List (Th × Value)} (h : TkV w base b s fv PF) : PF.length = s.l.length := by rw [h.list]; simp

theorem Tk.l_len (s : Tk) : s.l.length = s.all.length - s.done := by unfold Tk.l; simp

theorem TkV.cells {w : World} {base : B9} {b : Nat} {s : Tk} {fv : Value} {PF : List (Th × Value)} (h : TkV w base b s fv PF) :
    w.cell? ⟨b, 0, none⟩ = some (.int .u8 s.node) ∧ w.cell? ⟨b, 1, none⟩ = some (.int .u32 s.epoch) ∧ w.cell? ⟨b, 2, none⟩ = some (.int .u32 s.life) ∧ w.cell? ⟨b, 3, none⟩ = some (.int .u32 (s.heard : Int)) ∧ w.cell? ⟨b, 4, none⟩ = some (.int .u32 (s.all.length : Int)) ∧ w.cell? ⟨b, 5, none⟩ = some fv ∧ w.cell? ⟨b, 6, none⟩ = some (.int .u64 (s.clock : Int)) ∧ ∀ j, w.frozen? ⟨b, j, none⟩ = false :=
  ⟨(cell_of_row _ _ _ _ _ _ h.head).trans rfl, (cell_of_row _ _ _ _ _ _ h.head).trans rfl, (cell_of_row _ _ _ _ _ _ h.head).trans rfl, (cell_of_row _ _ _ _ _ _ h.head).trans rfl, (cell_of_row _ _ _ _ _ _ h.head).trans rfl, (cell_of_row _ _ _ _ _ _ h.head).trans rfl, (cell_of_row _ _ _ _ _ _ h.head).trans rfl, fun _ => frozen_of_row _ _ _ _ _ h.head⟩

/-- The row of what isn't answered: nil, or at a block's head. -/
theorem TkV.shape {w : World} {base : B9} {b : Nat} {s : Tk} {fv : Value} {PF : List (Th × Value)} (h : TkV w base b s fv PF) :
    ∃ a c, fv = .slice a s.l.length c ∧ s.l.length ≤ c ∧ c ≤ 9223372036854775807 := by
  obtain ⟨a, c, e, h1, h2⟩ := owns_slice h.row
  rw [h.len] at e h1
  exact ⟨a, c, e, h1, h2⟩

theorem tcells_get : ∀ (PF : List (Th × Value)) (i j : Nat) (x : Th × Value), PF[i]? = some x → j < 2 → (PF.flatMap tcells)[i * 2 + j]? = (tcells x)[j]?
  | [], i, j, x, h, _ => by simp at h
  | y :: r, 0, j, x, h, hj => by
    simp only [List.getElem?_cons_zero, Option.some.injEq] at h
    subst h
    rw [List.flatMap_cons, Nat.zero_mul, Nat.zero_add, List.getElem?_append_left (by simpa [tcells] using hj)]
  | y :: r, i + 1, j, x, h, hj => by
    rw [List.flatMap_cons, List.getElem?_append_right (by simp [tcells]; omega)]
    have := tcells_get r i j x (by simpa using h) hj
    rw [← this]
    congr 1
    simp [tcells]; omega

theorem tcells_len (PF : List (Th × Value)) : (PF.flatMap tcells).length = PF.length * 2 := by
  induction PF with
  | nil => rfl
  | cons y r ih => rw [List.flatMap_cons, List.length_append, ih]; simp [tcells]; omega

theorem tcells_drop : ∀ (PF : List (Th × Value)) (i : Nat), (PF.flatMap tcells).drop (i * 2) = (PF.drop i).flatMap tcells
  | PF, 0 => by simp
  | [], i + 1 => by simp
  | y :: r, i + 1 => by
    rw [List.flatMap_cons, List.drop_append, show (tcells y).length = 2 from rfl, show (i + 1) * 2 - 2 = i * 2 by omega, List.drop_eq_nil_of_le (by simp [tcells]; omega), List.nil_append, List.drop_succ_cons, tcells_drop r i]

/-- The cells of the i-th. -/
theorem TkV.tcell {w : World} {base : B9} {b : Nat} {s : Tk} {g n cap : Nat} {PF : List (Th × Value)} (h : TkV w base b s (.slice (some ⟨g, 0, none⟩) n cap) PF) {i : Nat} {x : Th × Value} (hx : PF[i]? = some x) :
    w.cell? ⟨g, i * 2, none⟩ = some x.2 ∧ w.cell? ⟨g, i * 2 + 1, none⟩ = some (.int .u64 (x.1.told : Int)) := by
  have hc := fun j u (e : (PF.flatMap tcells)[j]? = some u) => World.ownsRow.cells h.row (g := g) rfl j u e
  have go := fun j (hj : j < 2) u (e : (tcells x)[j]? = some u) => hc (i * 2 + j) u ((tcells_get PF i j x hx hj).trans e)
  refine ⟨?_, ?_⟩
  · have := go 0 (by omega) _ rfl
    rwa [Addr.add_lit, Nat.zero_add, Nat.add_zero] at this
  · have := go 1 (by omega) _ rfl
    rwa [Addr.add_lit, Nat.zero_add] at this

/-- Which blocks are which, by their types. -/
theorem TkV.apart {w : World} {base : B9} {b : Nat} {s : Tk} {fv : Value} {PF : List (Th × Value)} (h : TkV w base b s fv PF) : ∀ k, fv.ownBlock = some k → k ≠ b := by
  intro k hk e
  obtain ⟨cur, hc⟩ := owns_ty h.row k hk
  rw [e, h.head] at hc
  simp only [Option.some.injEq, Obj.cells.injEq] at hc
  exact absurd hc.2.1 (by decide)

theorem TkV.apart8 {w : World} {base : B9} {b : Nat} {s : Tk} {fv : Value} {PF : List (Th × Value)} (h : TkV w base b s fv PF) {v : Value} {l : List UInt8} {m : Nat} (ho : Own w m v l) : ∀ k, v.ownBlock = some k → k ≠ b ∧ fv.ownBlock ≠ some k := by
  intro k hk
  obtain ⟨cur, hc⟩ := owns_ty ho k hk
  refine ⟨fun e => ?_, fun e => ?_⟩
  · rw [e, h.head] at hc
    simp only [Option.some.injEq, Obj.cells.injEq] at hc
    exact absurd hc.2.1 (by decide)
  · obtain ⟨cur', hc'⟩ := owns_ty h.row k e
    rw [hc'] at hc
    simp only [Option.some.injEq, Obj.cells.injEq] at hc
    exact absurd hc.2.1 (by decide)

/-- What a call keeps: it writes the end's own blocks alone, and what is new. -/
structure KQ (base : B9) (w w' : World) : Prop where
  kt : KT talkTs base.n w w'
  q : ∀ k, k < w.heap.size → ¬ base.Q k → w'.heap[k]? = w.heap[k]?

theorem KQ.refl (base : B9) (w : World) : KQ base w w := ⟨KT.refl _ _ _, fun _ _ _ => rfl⟩

theorem KQ.trans {base : B9} {a b c : World} (h : KQ base a b) (k : KQ base b c) : KQ base a c :=
  ⟨h.kt.trans k.kt, fun i hi hq => (k.q i (Nat.lt_of_lt_of_le hi h.kt.size) hq).trans (h.q i hi hq)⟩

theorem KQ.size {base : B9} {w w' : World} (h : KQ base w w') : w.heap.size ≤ w'.heap.size := h.kt.size

theorem KQ.of_below {base : B9} {w w' : World} (h : Below w.heap.size w w') (hb : base.n ≤ w.heap.size) : KQ base w w' :=
  ⟨KT.of_below h hb, fun i hi _ => h.block i hi⟩

theorem KQ.drew {base : B9} {a w : World} (h : KQ base a w) : KQ base a w.drew := ⟨h.kt.drew, h.q⟩

theorem KQ.below {base : B9} {w w' : World} (h : KQ base w w') : Below base.n w w' := h.kt.below

/-- What writes the head and the row's block alone. -/
theorem TkV.ktS {S : Nat → Prop} {w w' : World} {base : B9} {b : Nat} {s : Tk} {fv : Value} {PF : List (Th × Value)} (h : TkV w base b s fv PF) (hk : Keeps S w w') (hS : ∀ k, k < w.heap.size → S k → k = b ∨ fv.ownBlock = some k) (hb : base.n ≤ w.heap.size) : KQ base w w' := by
  refine ⟨KT.of_keeps hk (fun k hlt hs => ?_) hb, fun k hlt hq => hk.block k hlt (fun hs => hq (h.loc k (hS k hlt hs)))⟩
  rcases hS k hlt hs with rfl | e
  · exact ⟨h.low, _, _, _, h.head, by simp⟩
  · obtain ⟨cur, hc⟩ := owns_ty h.row k e
    exact ⟨(World.ownsRow.lt h.row k e).1, _, _, _, hc, by simp⟩

/-- The head is written anew, and nothing else. -/
theorem TkV.head' {w w' : World} {base : B9} {b : Nat} {s s' : Tk} {fv : Value} {PF : List (Th × Value)} (h : TkV w base b s fv PF) (hk : Keeps (fun k => k = b) w w') (hh : w'.heap[b]? = some (.cells #[.int .u8 s'.node, .int .u32 s'.epoch, .int .u32 s'.life, .int .u32 (s'.heard : Int), .int .u32 (s'.all.length : Int), fv, .int .u64 (s'.clock : Int)] 73 (0, 0))) (hl : s'.l = PF.map (·.1)) (hok : s'.ok) : TkV w' base b s' fv PF :=
  ⟨hh, owns_by h.row (fun k hk' => hk.block k (World.ownsRow.lt h.row k hk').2 (h.apart k hk')), hl, fun x hx => (h.own x hx).to (fun k hk' => hk.block k ((h.own x hx).lt k hk').2 (h.apart8 (h.own x hx) k hk').1), h.low, hok, h.far, h.loc⟩

theorem kset (w : World) (b j : Nat) (V : Value) : Keeps (fun k => k = b) w (w.setCell ⟨b, j, none⟩ V) := (Keeps.refl (fun k => k = b) w).setCell (p := ⟨b, j, none⟩) (fun _ => rfl) _

theorem below_dr {B : Nat} {w w' : World} (h : Below B w w') : Below B w w'.drew := ⟨h.os, h.tape, h.output, h.size, h.block⟩

/-- A packet, plain. -/
structure Pk where
  node : Int
  epoch : Int
  life : Int
  seq : Nat
  ack : Nat
  plain : Bool
  data : List UInt8

def Pk.zero : Pk := ⟨0, 0, 0, 0, 0, false, []⟩

def Tk.pk (s : Tk) (seq : Nat) (d : List UInt8) : Pk := ⟨s.node, s.epoch, s.life, seq, s.heard, false, d⟩

/-- Its cells, its bytes being v. -/
def Pk.cells (k : Pk) (v : Value) : List Value := [.int .u8 k.node, .int .u32 k.epoch, .int .u32 k.life, .int .u32 (k.seq : Int), .int .u32 (k.ack : Int), .bool k.plain, v]

def Tk.new (node epoch life : Int) : Tk := ⟨node, epoch, life, [], 0, 0, 0⟩

def Tk.say (s : Tk) (p : List UInt8) : Tk := { s with all := s.all ++ [⟨p, s.clock⟩] }

def Tk.mine (s : Tk) (k : Pk) : Bool := decide (k.node = s.node) && decide (k.epoch = s.epoch) && decide (k.life = s.life) && !k.plain && decide (k.ack ≤ s.all.length)

def Tk.settle (s : Tk) (ack : Nat) : Tk := { s with done := max s.done ack }

/-- The first i of what isn't answered are told now. -/
def Tk.tell (s : Tk) (i : Nat) : Tk := { s with all := s.all.take s.done ++ ((s.all.drop s.done).take i).map (fun x => { x with told := s.clock }) ++ s.all.drop (s.done + i) }

def Tk.tock (s : Tk) : Tk := { s with clock := s.clock + 1 }

theorem Tk.ok_say {s : Tk} (h : s.ok) (p : List UInt8) (h1 : s.all.length < s.done + 256) (h2 : s.all.length < 1000000) (hp : p.length ≤ 1984) : (s.say p).ok := by
  obtain ⟨o1, o2, o3, o4, o5, o6⟩ := h
  refine ⟨?_, ?_, ?_, o4, o5, ?_⟩
  · simp only [Tk.say, List.length_append, List.length_cons, List.length_nil]; omega
  · simp only [Tk.say, List.length_append, List.length_cons, List.length_nil]; omega
  · simp only [Tk.say, List.length_append, List.length_cons, List.length_nil]; omega
  · intro x hx
    rcases List.mem_append.1 hx with hx | hx
    · exact o6 x hx
    · simp only [List.mem_singleton] at hx; subst hx; exact ⟨Nat.le_refl _, hp⟩

theorem Tk.ok_settle {s : Tk} (h : s.ok) (ack : Nat) (ha : ack ≤ s.all.length) : (s.settle ack).ok := by
  obtain ⟨o1, o2, o3, o4, o5, o6⟩ := h
  refine ⟨?_, o2, ?_, o4, o5, o6⟩
  · simp only [Tk.settle]; omega
  · simp only [Tk.settle]; omega

theorem Tk.ok_tock {s : Tk} (h : s.ok) (hc : s.clock < 1000000) : s.tock.ok := by
  obtain ⟨o1, o2, o3, o4, o5, o6⟩ := h
  exact ⟨o1, o2, o3, o4, hc, fun x hx => ⟨Nat.le_succ_of_le (o6 x hx).1, (o6 x hx).2⟩⟩

theorem Tk.tell_len (s : Tk) (i : Nat) (h : s.done + i ≤ s.all.length) : (s.tell i).all.length = s.all.length := by
  simp only [Tk.tell, List.length_append, List.length_map, List.length_take, List.length_drop]; omega

theorem Tk.tell_l (s : Tk) (i : Nat) (h : s.done + i ≤ s.all.length) : (s.tell i).l = (s.l.take i).map (fun x => { x with told := s.clock }) ++ s.l.drop i := by
  show ((s.tell i).all.drop s.done) = _
  unfold Tk.tell Tk.l
  rw [List.append_assoc, List.drop_append, List.length_take, List.drop_eq_nil_of_le (by simp; omega), List.nil_append, show s.done - min s.done s.all.length = 0 by omega, List.drop_zero, List.drop_drop]

theorem Tk.ok_tell {s : Tk} (h : s.ok) (i : Nat) (hi : s.done + i ≤ s.all.length) : (s.tell i).ok := by
  have hl := s.tell_len i hi
  obtain ⟨o1, o2, o3, o4, o5, o6⟩ := h
  refine ⟨?_, ?_, ?_, o4, o5, ?_⟩
  · rw [hl]; exact o1
  · rw [hl]; exact o2
  · rw [hl]; exact o3
  · intro x hx
    rcases List.mem_append.1 hx with hx | hx
    · rcases List.mem_append.1 hx with hx | hx
      · exact o6 x (List.mem_of_mem_take hx)
      · obtain ⟨y, hy, rfl⟩ := List.mem_map.1 hx
        exact ⟨Nat.le_refl _, (o6 y (List.mem_of_mem_drop (List.mem_of_mem_take hy))).2⟩
    · exact o6 x (List.mem_of_mem_drop hx)

end Go.Proofs.Ytjpojlkdogaalaa
