/-
  Layer 5: the calls of a slab, each whole: what it answers, and what it leaves.
-/
import Derived.Test.YtbagpckiegpalaaSlabC
namespace Go.Proofs.Ytbagpckiegpalaa
open Go.RowKit

/-- The blocks that a call of a slab may write. -/
def SlabS (b bn bd : Nat) (wv : Value) (k : Nat) : Prop := k = b ∨ k = bn ∨ k = bd ∨ wv.ownBlock = some k

/-- A block of another type, that is none of the three, isn't written. -/
theorem SlabAt.apart {w : World} {base b bn bd : Nat} {wv : Value} {s : Sl} (h : SlabAt w base b bn bd wv s) {g : Nat} {cs : Array Value} {t : TypeId} {fr : Nat × Nat} (hg : w.heap[g]? = some (.cells cs t fr)) (h1 : g ≠ b) (h2 : g ≠ bn) (h3 : g ≠ bd) (ht : t ≠ 100) : ¬ SlabS b bn bd wv g := by
  rintro (e | e | e | e)
  · exact h1 e
  · exact h2 e
  · exact h3 e
  · obtain ⟨cur, hc⟩ := h.2.2.2.1.type g e
    rw [hg] at hc
    simp only [Option.some.injEq, Obj.cells.injEq] at hc
    exact ht hc.2.1

theorem SlabAt.apart' {w : World} {base b bn bd : Nat} {wv : Value} {s : Sl} (h : SlabAt w base b bn bd wv s) {g : Nat} {cs : Array Value} {t : TypeId} {fr : Nat × Nat} (hg : w.heap[g]? = some (.cells cs t fr)) (h1 : t ≠ 86) (h2 : t ≠ 98) (ht : t ≠ 100) : ¬ SlabS b bn bd wv g := by
  refine h.apart hg (fun e => ?_) (fun e => ?_) (fun e => ?_) ht
  · subst e; have := hg.symm.trans h.1; simp only [Option.some.injEq, Obj.cells.injEq] at this; exact h1 this.2.1
  · subst e; have := hg.symm.trans h.2.1; simp only [Option.some.injEq, Obj.cells.injEq] at this; exact h2 this.2.1
  · subst e; have := hg.symm.trans h.2.2.1; simp only [Option.some.injEq, Obj.cells.injEq] at this; exact h2 this.2.1

theorem SlabAt.low {w : World} {base b bn bd : Nat} {wv : Value} {s : Sl} (h : SlabAt w base b bn bd wv s) : ∀ k, SlabS b bn bd wv k → base ≤ k := by
  rintro k (e | e | e | e)
  · subst e; exact h.2.2.2.2.1
  · subst e; exact h.2.2.2.2.2.1
  · subst e; exact h.2.2.2.2.2.2.1
  · exact (h.2.2.2.1.lt k e).1

theorem SlabAt.size {w : World} {base b bn bd : Nat} {wv : Value} {s : Sl} (h : SlabAt w base b bn bd wv s) : b < w.heap.size ∧ bn < w.heap.size ∧ bd < w.heap.size ∧ base ≤ w.heap.size := by
  have h1 := (Array.getElem?_eq_some_iff.1 h.1).1
  have h2 := (Array.getElem?_eq_some_iff.1 h.2.1).1
  have h3 := (Array.getElem?_eq_some_iff.1 h.2.2.1).1
  have h4 := h.2.2.2.2.1
  omega

theorem SlabAt.keep {w w' : World} {base b bn bd : Nat} {wv : Value} {s : Sl} (h : SlabAt w base b bn bd wv s) (hk : Keeps (SlabS b bn bd wv) w w') : Below base w w' := hk.below h.size.2.2.2 h.low

theorem SlabAt.okay {w : World} {base b bn bd : Nat} {wv : Value} {s : Sl} (h : SlabAt w base b bn bd wv s) : s.ok := h.2.2.2.2.2.2.2.2.2.2.2

/-- Write: the slab behind it, and the answer. -/
def Sl.write (s : Sl) (i : Int) (p : List UInt8) : Sl × Int :=
  if s.has i = false then (s, 1) else if 128 < p.length then (s, 3) else if s.off = true then (s, 13) else ((s.put i.toNat (pad p)).step, s.stepE)
def Sl.flushed (s : Sl) : Sl × Int := if s.off = true then (s, 13) else if s.armed = 1 then (s.step, 13) else (s.step.flush, 0)
def Sl.arm (s : Sl) (n : Int) : Sl × Int := if n < 0 then (s, 1) else ({ s with armed := n.toNat }, 0)
/-- Read's answer: bytes, and the error. -/
def Sl.read (s : Sl) (i : Int) : List UInt8 × Int := if s.has i = false then ([], 1) else if s.off = true then ([], 13) else (sect s.now i.toNat, 0)

/-- A slice's block, whatever its place. -/
theorem rd_slice {w : World} {v : Value} {l : List UInt8} (h : Rd w v l) : ∃ a c, v = .slice a l.length c := by
  obtain ⟨a, c, e, _⟩ := h
  exact ⟨a, c, e⟩

theorem write_all (base b bn bd : Nat) (wv : Value) (s : Sl) (i : Int) (pv : Value) (p : List UInt8) (w : World) (h : SlabAt w base b bn bd wv s) (hst : s.steps ≤ 1000000) (hwy : s.way.length < 1000000) (hp : Rd w pv p) :
    Calls Try.prog 23 #[.pointer (some ⟨b, 0, none⟩), .int .i64 i, pv] w fun e w' => ∃ v', e = .returned (.int .i64 (s.write i p).2) ∧ SlabAt w' base b bn bd v' (s.write i p).1 ∧ Keeps (SlabS b bn bd wv) w w' := by
  obtain ⟨pa, pc, rfl⟩ := rd_slice hp
  unfold Sl.write
  by_cases h1 : s.has i = false
  · simp only [if_pos h1]
    refine (write_no base b bn bd wv s i pa p.length pc w h h1).mono ?_
    rintro e w' ⟨rfl, rfl⟩
    exact ⟨wv, rfl, h, Keeps.refl _ _⟩
  · have h1' : s.has i = true := by simpa using h1
    simp only [if_neg h1]
    by_cases h2 : 128 < p.length
    · simp only [if_pos h2]
      refine (write_long base b bn bd wv s i pa p.length pc w h h1' h2).mono ?_
      rintro e w' ⟨rfl, rfl⟩
      exact ⟨wv, rfl, h, Keeps.refl _ _⟩
    · simp only [if_neg h2]
      by_cases h3 : s.off = true
      · simp only [if_pos h3]
        refine (write_off base b bn bd wv s i pa p.length pc w h h1' (by omega) h3).mono ?_
        rintro e w' ⟨rfl, rfl⟩
        exact ⟨wv, rfl, h, Keeps.refl _ _⟩
      · simp only [if_neg h3]
        have hb : 0 ≤ i ∧ i < (s.n : Int) := by simpa [Sl.has] using h1'
        obtain ⟨j, rfl⟩ := Int.eq_ofNat_of_zero_le hb.1
        have hj : j < s.n := by omega
        rw [Int.toNat_natCast]
        refine (write_any base b bn bd wv s j pa pc p.length p w h hj hst hwy (by simpa using h3) hp rfl (by omega)).mono ?_
        rintro e w' ⟨v', rfl, h4, h5⟩
        exact ⟨v', rfl, h4, h5.mono (fun k _ hk => hk.elim .inl (fun h => h.elim (fun e => .inr (.inl e)) (fun e => .inr (.inr (.inr e)))))⟩

theorem flush_all (base b bn bd : Nat) (wv : Value) (s : Sl) (w : World) (h : SlabAt w base b bn bd wv s) (hst : s.steps ≤ 1000000) :
    Calls Try.prog 21 #[.pointer (some ⟨b, 0, none⟩)] w fun e w' => ∃ v', e = .returned (.int .i64 s.flushed.2) ∧ SlabAt w' base b bn bd v' s.flushed.1 ∧ Keeps (SlabS b bn bd wv) w w' := by
  unfold Sl.flushed
  by_cases h1 : s.off = true
  · simp only [if_pos h1]
    refine (flush_off base b bn bd wv s w h h1).mono ?_
    rintro e w' ⟨rfl, rfl⟩
    exact ⟨wv, rfl, h, Keeps.refl _ _⟩
  · simp only [if_neg h1]
    by_cases h2 : s.armed = 1
    · simp only [if_pos h2]
      refine (flush_down base b bn bd wv s w h hst (by simpa using h1) h2).mono ?_
      rintro e w' ⟨rfl, h4, h5⟩
      exact ⟨wv, rfl, h4, h5.mono (fun k _ e => .inl e)⟩
    · simp only [if_neg h2]
      refine (flush_any base b bn bd wv s w h hst (by simpa using h1) h2).mono ?_
      rintro e w' ⟨rfl, h4, h5⟩
      exact ⟨_, rfl, h4, h5.mono (fun k _ hk => hk.elim .inl (fun e => .inr (.inr (.inl e))))⟩

theorem arm_all (base b bn bd : Nat) (wv : Value) (s : Sl) (n : Int) (w : World) (h : SlabAt w base b bn bd wv s) (hn : n ≤ 9223372036854775807) :
    Calls Try.prog 27 #[.pointer (some ⟨b, 0, none⟩), .int .i64 n] w fun e w' => e = .returned (.int .i64 (s.arm n).2) ∧ SlabAt w' base b bn bd wv (s.arm n).1 ∧ Keeps (SlabS b bn bd wv) w w' := by
  unfold Sl.arm
  by_cases h1 : n < 0
  · simp only [if_pos h1]
    refine (arm_neg b n w h1).mono ?_
    rintro e w' ⟨rfl, rfl⟩
    exact ⟨rfl, h, Keeps.refl _ _⟩
  · simp only [if_neg h1]
    obtain ⟨j, rfl⟩ := Int.eq_ofNat_of_zero_le (by omega : 0 ≤ n)
    rw [Int.toNat_natCast]
    refine (arm_any base b bn bd wv s j w h (by omega)).mono ?_
    rintro e w' ⟨rfl, h4, h5⟩
    exact ⟨rfl, h4, h5.mono (fun k _ e => .inl e)⟩

theorem crash_all (base b bn bd : Nat) (wv : Value) (s : Sl) (fv : Value) (fates : List UInt8) (cut : Int) (w : World) (h : SlabAt w base b bn bd wv s) (hrd : Rd w fv fates) (hfb : fates ≠ [] → ∀ k, fv.ownBlock = some k → k ≠ bd) :
    Calls Try.prog 25 #[.pointer (some ⟨b, 0, none⟩), fv, .int .i64 cut] w fun e w' => e = .returned (.int .i64 0) ∧ SlabAt w' base b bn bd (.slice none 0 0) (s.crash fates cut) ∧ Keeps (SlabS b bn bd wv) w w' := by
  refine (crash_any base b bn bd wv s fv fates cut w h hrd hfb).mono ?_
  rintro e w' ⟨rfl, h4, h5⟩
  exact ⟨rfl, h4, h5.mono (fun k _ hk => hk.elim .inl (fun h => h.elim (fun e => .inr (.inl e)) (fun e => .inr (.inr (.inl e)))))⟩

/-- Read: fresh bytes, or nil. -/
def ReadAns (w w' : World) (v : Value) (l : List UInt8) (e : Int) : Prop :=
  (e ≠ 0 ∧ l = [] ∧ v = .slice none 0 0 ∧ w = w') ∨ (e = 0 ∧ l.length = 128 ∧ ∃ g, v = .slice (some ⟨g, 0, none⟩) 128 128 ∧ w'.heap[g]? = some (.cells (l.map bv).toArray 98 (0, 0)) ∧ w.heap.size ≤ g ∧ Below w.heap.size w w')

theorem ReadAns.below {w w' : World} {v : Value} {l : List UInt8} {e : Int} (h : ReadAns w w' v l e) : Below w.heap.size w w' := by
  rcases h with ⟨_, _, _, rfl⟩ | ⟨_, _, g, _, _, _, h⟩
  · exact Below.refl _ _
  · exact h

theorem rd_row {w : World} {g : Nat} {l : List UInt8} {t : TypeId} {n : Nat} (hn : n = l.length) (h : w.heap[g]? = some (.cells (l.map bv).toArray t (0, 0))) (hm : l.length ≤ maxLen) : Rd w (.slice (some ⟨g, 0, none⟩) n n) l := by
  subst hn
  refine ⟨_, l.length, rfl, Nat.le_refl _, hm, (fun h => by cases h), fun x hx j hj => ?_⟩
  cases hx
  rw [Addr.add_lit, Nat.zero_add, cell_of_row _ _ _ _ _ _ h]
  simp [List.getElem?_eq_getElem hj]

theorem ReadAns.rd {w w' : World} {v : Value} {l : List UInt8} {e : Int} (h : ReadAns w w' v l e) : Rd w' v l := by
  rcases h with ⟨_, rfl, rfl, _⟩ | ⟨_, hl, g, rfl, hg, _, _⟩
  · exact Rd.nil _
  · exact rd_row hl.symm hg (by rw [hl]; unfold maxLen; omega)

theorem read_all (base b bn bd : Nat) (wv : Value) (s : Sl) (i : Int) (w : World) (h : SlabAt w base b bn bd wv s) :
    Calls Try.prog 31 #[.pointer (some ⟨b, 0, none⟩), .int .i64 i] w fun e w' => ∃ v, e = .returned (.tuple #[v, .int .i64 (s.read i).2]) ∧ ReadAns w w' v (s.read i).1 (s.read i).2 := by
  unfold Sl.read
  by_cases h1 : s.has i = false
  · simp only [if_pos h1]
    refine (read_no base b bn bd wv s i w h h1).mono ?_
    rintro e w' ⟨rfl, rfl⟩
    exact ⟨_, rfl, .inl ⟨by decide, rfl, rfl, rfl⟩⟩
  · have h1' : s.has i = true := by simpa using h1
    simp only [if_neg h1]
    by_cases h3 : s.off = true
    · simp only [if_pos h3]
      refine (read_off base b bn bd wv s i w h h1' h3).mono ?_
      rintro e w' ⟨rfl, rfl⟩
      exact ⟨_, rfl, .inl ⟨by decide, rfl, rfl, rfl⟩⟩
    · simp only [if_neg h3]
      have hb : 0 ≤ i ∧ i < (s.n : Int) := by simpa [Sl.has] using h1'
      obtain ⟨j, rfl⟩ := Int.eq_ofNat_of_zero_le hb.1
      have hj : j < s.n := by omega
      rw [Int.toNat_natCast]
      have hok := h.okay
      refine (read_any base b bn bd wv s j w h hj (by simpa using h3)).mono ?_
      rintro e w' ⟨g, rfl, h4, h5, h6⟩
      exact ⟨_, rfl, .inr ⟨rfl, sect_length _ _ _ hok.2.2.1 hj, g, rfl, h4, h5, h6⟩⟩

/-! ### What the state says -/
theorem Sl.write_n (s : Sl) (i : Int) (p : List UInt8) : (s.write i p).1.n = s.n := by unfold Sl.write; split <;> (try split) <;> (try split) <;> rfl
theorem Sl.flushed_n (s : Sl) : s.flushed.1.n = s.n := by unfold Sl.flushed; split <;> (try split) <;> rfl
theorem Sl.arm_n (s : Sl) (n : Int) : (s.arm n).1.n = s.n := by unfold Sl.arm; split <;> rfl
theorem Sl.write_steps (s : Sl) (i : Int) (p : List UInt8) : (s.write i p).1.steps ≤ s.steps + 1 ∧ (s.write i p).1.way.length ≤ s.way.length + 1 := by
  unfold Sl.write; split <;> (try split) <;> (try split) <;> simp [Sl.put, Sl.step]
theorem Sl.flushed_steps (s : Sl) : s.flushed.1.steps ≤ s.steps + 1 ∧ s.flushed.1.way.length ≤ s.way.length := by
  unfold Sl.flushed; split <;> (try split) <;> simp [Sl.flush, Sl.step]
theorem Sl.arm_steps (s : Sl) (n : Int) : (s.arm n).1.steps = s.steps ∧ (s.arm n).1.way = s.way := by unfold Sl.arm; split <;> exact ⟨rfl, rfl⟩

end Go.Proofs.Ytbagpckiegpalaa
