/-
  Layer 10: Tick: its contracts; a row of packets.
-/
import Derived.Test.YtjpojlkdogaalaaTalkI
import Derived.Laws.OwnMore
namespace Go.Proofs.Ytjpojlkdogaalaa
open Go.RowKit
set_option linter.unusedVariables false
set_option linter.unusedSimpArgs false

theorem infoPk : (Try.prog.info? 31).map (fun i => (i.zero, i.size, i.bytes)) = some (some (.agg #[.int .u8 0, .int .u32 0, .int .u32 0, .int .u32 0, .int .u32 0, .bool false, .slice none 0 0]), 7, 48) := by kernel_rfl

def pcells (x : Pk × Value) : List Value := x.1.cells x.2

theorem pcells_len (PF : List (Pk × Value)) : (PF.flatMap pcells).length = PF.length * 7 := by
  induction PF with
  | nil => rfl
  | cons y r ih => rw [List.flatMap_cons, List.length_append, ih]; simp [pcells, Pk.cells]; omega

theorem pcells_get : ∀ (PF : List (Pk × Value)) (i j : Nat) (x : Pk × Value), PF[i]? = some x → j < 7 → (PF.flatMap pcells)[i * 7 + j]? = (pcells x)[j]?
  | [], i, j, x, h, _ => by simp at h
  | y :: r, 0, j, x, h, hj => by
    simp only [List.getElem?_cons_zero, Option.some.injEq] at h
    subst h
    rw [List.flatMap_cons, Nat.zero_mul, Nat.zero_add, List.getElem?_append_left (by simpa [pcells, Pk.cells] using hj)]
  | y :: r, i + 1, j, x, h, hj => by
    rw [List.flatMap_cons, List.getElem?_append_right (by simp [pcells, Pk.cells]; omega)]
    have := pcells_get r i j x (by simpa using h) hj
    rw [← this]
    congr 1
    simp [pcells, Pk.cells]; omega

theorem pcells_one {w : World} {base : Nat} {PF : List (Pk × Value)} (h : ∀ x ∈ PF, Own w base x.2 x.1.data) : ∀ u ∈ PF.flatMap pcells, u.oneCell' = true := by
  intro u hu
  obtain ⟨x, hx, hu⟩ := List.mem_flatMap.1 hu
  obtain ⟨a, c, e⟩ := rd_sl (h x hx).rd
  simp only [pcells, Pk.cells, e, List.mem_cons, List.not_mem_nil, or_false] at hu
  rcases hu with rfl | rfl | rfl | rfl | rfl | rfl | rfl <;> rfl

/-- A row of packets of its own, with what they hold. -/
structure PkV (w : World) (base : Nat) (v : Value) (ks : List Pk) (PF : List (Pk × Value)) : Prop where
  row : w.ownsRow base 31 7 v PF.length (PF.flatMap pcells)
  list : ks = PF.map (·.1)
  own : ∀ x ∈ PF, Own w base x.2 x.1.data

def PkRow (w : World) (base : Nat) (v : Value) (ks : List Pk) : Prop := ∃ PF, PkV w base v ks PF

theorem PkV.kt {ts : List TypeId} {n base : Nat} {w w' : World} {v : Value} {ks : List Pk} {PF : List (Pk × Value)} (h : PkV w base v ks PF) (hk : KT ts n w w') (h1 : 31 ∉ ts) (h2 : 5 ∉ ts) : PkV w' base v ks PF :=
  ⟨owns_kt h.row hk h1, h.list, fun x hx => (h.own x hx).kt hk h2⟩

theorem PkRow.kt {ts : List TypeId} {n base : Nat} {w w' : World} {v : Value} {ks : List Pk} (h : PkRow w base v ks) (hk : KT ts n w w') (h1 : 31 ∉ ts) (h2 : 5 ∉ ts) : PkRow w' base v ks :=
  let ⟨PF, hh⟩ := h
  ⟨PF, hh.kt hk h1 h2⟩

theorem PkRow.below {base : Nat} {w w' : World} {v : Value} {ks : List Pk} (h : PkRow w base v ks) (hb : Below w.heap.size w w') : PkRow w' base v ks :=
  h.kt (KT.of_below (ts := []) hb (Nat.le_refl _)) (by simp) (by simp)

theorem PkRow.nil (w : World) (base : Nat) : PkRow w base (.slice none 0 0) [] := ⟨[], World.ownsRow_nil _ _ _ _, rfl, fun x hx => by cases hx⟩

theorem PkRow.base {w : World} {base base' : Nat} {v : Value} {ks : List Pk} (h : PkRow w base v ks) (hb : base' ≤ base) : PkRow w base' v ks := by
  obtain ⟨PF, h1, h2, h3⟩ := h
  exact ⟨PF, owns_base h1 hb, h2, fun x hx => (h3 x hx).base (fun k hk => Nat.le_trans hb ((h3 x hx).lt k hk).1)⟩

theorem PkRow.slice {w : World} {base : Nat} {v : Value} {ks : List Pk} (h : PkRow w base v ks) : ∃ a c, v = .slice a ks.length c := by
  obtain ⟨PF, h1, h2, h3⟩ := h
  obtain ⟨a, c, e, _⟩ := owns_slice h1
  exact ⟨a, c, by rw [h2, List.length_map]; exact e⟩

/-- Has the first that isn't answered waited for long enough? (behind the tick) -/
def Tk.due (s : Tk) : Bool := match s.l with
  | [] => false
  | x :: _ => decide (x.told + 2 ≤ s.clock)

def Tk.nth (s : Tk) (i : Nat) : Pk := s.pk (s.done + i + 1) ((s.l.getD i ⟨[], 0⟩).t)

/-- The packets of the first n that aren't answered. -/
def Tk.packs (s : Tk) (n : Nat) : List Pk := (List.range n).map s.nth

def Tk.tick (s : Tk) : Tk := if s.tock.due then s.tock.tell s.l.length else s.tock

def Tk.outs (s : Tk) : List Pk := if s.tock.due then s.packs s.l.length else []

theorem Tk.packs_len (s : Tk) (n : Nat) : (s.packs n).length = n := by simp [Tk.packs]

theorem Tk.tell_zero (s : Tk) (h : s.done ≤ s.all.length) : s.tell 0 = s := by
  unfold Tk.tell
  simp only [List.take_zero, List.map_nil, List.append_nil, Nat.add_zero, List.take_append_drop]

theorem tcells_set : ∀ (PF : List (Th × Value)) (i : Nat) (x : Th × Value) (m : Nat), PF[i]? = some x → (PF.flatMap tcells).set (i * 2 + 1) (.int .u64 (m : Int)) = (PF.set i (⟨x.1.t, m⟩, x.2)).flatMap tcells
  | [], i, x, m, h => by simp at h
  | y :: r, 0, x, m, h => by
    simp only [List.getElem?_cons_zero, Option.some.injEq] at h
    subst h
    rfl
  | y :: r, i + 1, x, m, h => by
    rw [List.flatMap_cons, List.set_cons_succ, List.flatMap_cons, List.set_append_right _ _ (by simp [tcells]; omega), show (i + 1) * 2 + 1 - (tcells y).length = i * 2 + 1 by simp [tcells]; omega, tcells_set r i x m (by simpa using h)]

/-- One more is told. -/
theorem told_v {w : World} {base : B9} {b g n fc i : Nat} {s : Tk} {PF : List (Th × Value)} (h : TkV w base b (s.tell i) (.slice (some ⟨g, 0, none⟩) n fc) PF) (hs : s.ok) (hi : s.done + i < s.all.length) :
    ∃ PF', TkV (w.setCell ⟨g, i * 2 + 1, none⟩ (.int .u64 (s.clock : Int))) base b (s.tell (i + 1)) (.slice (some ⟨g, 0, none⟩) n fc) PF' := by
  have hl := h.list
  rw [Tk.tell_l s i (by omega)] at hl
  have hll := s.l_len
  have hPl : PF.length = s.l.length := by
    have := congrArg List.length hl
    simp only [List.length_append, List.length_map, List.length_take, List.length_drop] at this
    omega
  have hne : PF[i]? = some (PF[i]'(by omega)) := List.getElem?_eq_getElem (by omega)
  obtain ⟨x, hx⟩ : ∃ x, PF[i]? = some x := ⟨_, hne⟩
  have hxt : s.l[i]? = some x.1 := by
    have e := congrArg (fun l => l[i]?) hl
    simp only [List.getElem?_map, hx, Option.map_some] at e
    rw [List.getElem?_append_right (by simp; omega), List.getElem?_drop] at e
    simp only [List.length_map, List.length_take] at e
    rw [show i + (i - min i s.l.length) = i by omega] at e
    exact e
  have hmem : x ∈ PF := List.mem_of_getElem? hx
  have hkg : Keeps (fun k => k = g) w (w.setCell ⟨g, i * 2 + 1, none⟩ (.int .u64 (s.clock : Int))) := kset _ _ _ _
  have hgb : g ≠ b := h.apart g rfl
  have hn : n = PF.length := by
    obtain ⟨a, c, e, _⟩ := owns_slice h.row
    simp only [Value.slice.injEq] at e
    exact e.2.1
  have hrow := h.row
  subst hn
  have hown : ∀ y ∈ PF, Own (w.setCell ⟨g, i * 2 + 1, none⟩ (.int .u64 (s.clock : Int))) base.n y.2 y.1.t := fun y hy =>
    (h.own y hy).to fun k hk => hkg.block k ((h.own y hy).lt k hk).2 (fun e => (h.apart8 (h.own y hy) k hk).2 (by rw [e]; rfl))
  have hset : ∀ y ∈ PF.set i (⟨x.1.t, s.clock⟩, x.2), y ∈ PF ∨ y = (⟨x.1.t, s.clock⟩, x.2) := fun y hy => List.mem_or_eq_of_mem_set hy
  refine ⟨PF.set i (⟨x.1.t, s.clock⟩, x.2), (hkg.block b h.lt (fun e => hgb e.symm)).trans ?_, ?_, ?_, fun y hy => ?_, h.low, Tk.ok_tell hs _ (by omega), fun y hy k hk => ?_, h.loc⟩
  · rw [h.head, Tk.tell_len s i (by omega), Tk.tell_len s (i + 1) (by omega)]
    rfl
  · have := (World.ownsRow.stored hrow (i * 2 + 1) (.int .u64 (s.clock : Int))).1
    rw [tcells_set PF i x s.clock hx] at this
    rwa [List.length_set]
  · rw [Tk.tell_l s (i + 1) (by omega), List.map_set, ← hl]
    apply List.ext_getElem?
    intro j
    have hxi : s.l[i]'(by omega) = x.1 := by
      have := hxt
      rw [List.getElem?_eq_getElem (by omega)] at this
      exact Option.some.inj this
    by_cases hj : j < s.l.length
    · rw [List.getElem?_set]
      rcases Nat.lt_trichotomy j i with hji | hji | hji
      · rw [if_neg (by omega), List.getElem?_append_left (by simp; omega), List.getElem?_append_left (by simp; omega)]
        simp [List.getElem?_take, hji, Nat.lt_succ_of_lt hji]
      · subst hji
        rw [if_pos rfl, if_pos (by simp; omega), List.getElem?_append_left (by simp; omega)]
        simp [List.getElem?_take, hj, hxi]
      · rw [if_neg (by omega), List.getElem?_append_right (by simp; omega), List.getElem?_append_right (by simp; omega)]
        simp only [List.getElem?_drop, List.length_map, List.length_take]
        congr 1
        omega
    · rw [List.getElem?_eq_none (by simp; omega), List.getElem?_eq_none (by simp; omega)]
  · rcases hset y hy with h1 | rfl
    · exact hown y h1
    · exact hown x hmem
  · rcases hset y hy with h1 | rfl
    · exact h.far y h1 k hk
    · exact h.far x hmem k hk

theorem Tk.tell_t (s : Tk) (i : Nat) (h : s.done + i ≤ s.all.length) : (s.tell i).l.map (·.t) = s.l.map (·.t) := by
  rw [Tk.tell_l s i h, List.map_append, List.map_map]
  show (s.l.take i).map (fun x => x.t) ++ _ = _
  rw [← List.map_append, List.take_append_drop]

theorem Tk.packs_succ (s : Tk) (n : Nat) : s.packs (n + 1) = s.packs n ++ [s.nth n] := by
  unfold Tk.packs
  rw [List.range_succ, List.map_append]
  rfl

/-- What is written is new. -/
theorem KT.fresh {ts us : List TypeId} {base n : Nat} {a w w' : World} (h : KT ts base a w) (hk : KT us n w w') (hn : a.heap.size ≤ n) (hb : base ≤ n) (hw : n ≤ w.heap.size) : KT ts base a w' :=
  ⟨⟨hk.keeps.os.trans h.keeps.os, hk.keeps.tape.trans h.keeps.tape, hk.keeps.output.trans h.keeps.output, Nat.le_trans h.keeps.size hk.keeps.size, fun i hi hs => (hk.below.block i (by omega)).trans (h.keeps.block i hi hs)⟩, h.below.trans (hk.below.mono hb)⟩

theorem KQ.fresh {base : B9} {us : List TypeId} {n : Nat} {a w w' : World} (h : KQ base a w) (hk : KT us n w w') (hn : a.heap.size ≤ n) (hb : base.n ≤ n) (hw : n ≤ w.heap.size) : KQ base a w' :=
  ⟨h.kt.fresh hk hn hb hw, fun i hi hq => (hk.below.block i (by omega)).trans (h.q i hi hq)⟩

theorem Tk.tell_fields (s : Tk) (i : Nat) : (s.tell i).done = s.done ∧ (s.tell i).clock = s.clock ∧ (s.tell i).heard = s.heard ∧ (s.tell i).node = s.node ∧ (s.tell i).epoch = s.epoch ∧ (s.tell i).life = s.life := ⟨rfl, rfl, rfl, rfl, rfl, rfl⟩

/-- A packet more. -/
theorem PkV.push {w w' : World} {base : Nat} {v : Value} {ks : List Pk} {PF : List (Pk × Value)} {k : Pk} {va : Option Addr} {vc : Nat} {V : Value} (h : PkV w base v ks PF) (hr : w'.ownsRow base 31 7 V (PF.length + 1) (PF.flatMap pcells ++ k.cells (.slice va k.data.length vc))) (ho : ∀ x ∈ PF, Own w' base x.2 x.1.data) (hk : Own w' base (.slice va k.data.length vc) k.data) : PkRow w' base V (ks ++ [k]) := by
  refine ⟨PF ++ [(k, .slice va k.data.length vc)], ?_, by rw [h.list]; simp, fun x hx => ?_⟩
  · rw [List.length_append, List.flatMap_append]
    simpa [pcells] using hr
  · rcases List.mem_append.1 hx with hx | hx
    · exact ho x hx
    · simp only [List.mem_singleton] at hx
      subst hx
      exact hk

end Go.Proofs.Ytjpojlkdogaalaa
