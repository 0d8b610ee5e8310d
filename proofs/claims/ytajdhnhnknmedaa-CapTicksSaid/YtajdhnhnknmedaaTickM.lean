/-
  Plain words of CapTicks: how many of the ticks 0 to 255 lie in all stretches.
-/
import Derived.Test.YtajdhnhnknmedaaRow3
namespace Go.Proofs.Ytajdhnhnknmedaa
open Go.RowKit Go.ChangeShapes Go.WideShapes Go.Deep

namespace Cap
/-- Does the tick lie in all of the stretches? -/
def tin (t : Nat) (l : List (Nat × Nat)) : Bool := l.all fun s => decide (s.1 ≤ t) && decide (t ≤ s.2)

/-- How many of the first T ticks do. -/
def cnt (l : List (Nat × Nat)) : Nat → Nat
  | 0 => 0
  | T + 1 => cnt l T + (if tin T l = true then 1 else 0)

theorem tin_snoc (t : Nat) (l : List (Nat × Nat)) (s : Nat × Nat) : tin t (l ++ [s]) = (tin t l && (decide (s.1 ≤ t) && decide (t ≤ s.2))) := by
  unfold tin
  rw [List.all_append]
  simp

theorem cnt_le (l : List (Nat × Nat)) : ∀ T, cnt l T ≤ T
  | 0 => Nat.le_refl _
  | T + 1 => by
    have := cnt_le l T
    unfold cnt
    split <;> omega

theorem foldl_max (l : List (Nat × Nat)) : ∀ m t, l.foldl (fun m s => max m s.1) m ≤ t ↔ m ≤ t ∧ ∀ s ∈ l, s.1 ≤ t := by
  induction l with
  | nil => intro m t; simp
  | cons x l ih =>
    intro m t
    rw [List.foldl_cons, ih]
    simp only [List.mem_cons, forall_eq_or_imp]
    constructor
    · rintro ⟨h1, h2⟩; exact ⟨by omega, by omega, h2⟩
    · rintro ⟨h1, h2, h3⟩; exact ⟨by omega, h3⟩

theorem foldl_min (l : List (Nat × Nat)) : ∀ m t, t ≤ l.foldl (fun m s => min m s.2) m ↔ t ≤ m ∧ ∀ s ∈ l, t ≤ s.2 := by
  induction l with
  | nil => intro m t; simp
  | cons x l ih =>
    intro m t
    rw [List.foldl_cons, ih]
    simp only [List.mem_cons, forall_eq_or_imp]
    constructor
    · rintro ⟨h1, h2⟩; exact ⟨by omega, by omega, h2⟩
    · rintro ⟨h1, h2, h3⟩; exact ⟨by omega, h3⟩

theorem tin_iff (t : Nat) (l : List (Nat × Nat)) (ht : t ≤ 4294967295) : tin t l = true ↔ first l ≤ t ∧ t ≤ last l := by
  unfold tin first last
  rw [foldl_max, foldl_min, List.all_eq_true]
  simp only [Bool.and_eq_true, decide_eq_true_eq]
  constructor
  · intro h; exact ⟨⟨by omega, fun s hs => (h s hs).1⟩, ht, fun s hs => (h s hs).2⟩
  · rintro ⟨⟨_, h1⟩, _, h2⟩ s hs; exact ⟨h1 s hs, h2 s hs⟩

theorem cnt_val (l : List (Nat × Nat)) : ∀ T, T ≤ 4294967295 → cnt l T = min T (last l + 1) - first l := by
  intro T
  induction T with
  | zero => intro _; unfold cnt; omega
  | succ T ih =>
    intro h
    have e := ih (by omega)
    have ti := tin_iff T l (by omega)
    unfold cnt
    by_cases c : tin T l = true
    · rw [if_pos c, e]; have := ti.1 c; omega
    · rw [if_neg c, e]
      have : ¬ (first l ≤ T ∧ T ≤ last l) := fun h => c (ti.2 h)
      omega

theorem cnt_ov (l : List (Nat × Nat)) (h0 : 0 < l.length) (h : ∀ s ∈ l, s.2 < 256) : cnt l 256 = ov l := by
  rw [cnt_val l 256 (by omega)]
  have hl : last l < 256 := by
    obtain ⟨s, hs⟩ : ∃ s, s ∈ l := ⟨l[0], List.getElem_mem h0⟩
    have := (foldl_min l 4294967295 (last l)).1 (Nat.le_refl _)
    have := this.2 s hs
    have := h s hs
    omega
  unfold ov
  rw [if_neg (by rintro rfl; simp at h0)]
  split <;> omega
end Cap

/-- What came in, cut to its first k pairs, as a list. -/
theorem IsL28.rd8 {w : World} {a : Option Addr} {len cap : Nat} (h : IsL28 w a len cap) : ∀ k, k ≤ len → 0 < len → ∃ (l : List (Nat × Nat)) (b off : Nat), a = some ⟨b, off, none⟩ ∧ b < w.heap.size ∧ l.length = k ∧
    ∀ j, j < k → (l.getD j (0, 0)).1 < 256 ∧ (l.getD j (0, 0)).2 < 256 ∧ w.cell? ⟨b, off + j * 2, none⟩ = some (.int .u8 ((l.getD j (0, 0)).1 : Int)) ∧ w.cell? ⟨b, off + j * 2 + 1, none⟩ = some (.int .u8 ((l.getD j (0, 0)).2 : Int)) := by
  intro k hk h0
  rcases h with ⟨_, rfl, _⟩ | ⟨x, rfl, h1, h2, h3⟩
  · omega
  · obtain ⟨b, off, spot⟩ := x
    obtain ⟨d, n, c0, _⟩ := h3 0 h0
    have hs : spot = none := by simpa [Addr.add] using World.cell?_spot c0
    subst hs
    have hb : b < w.heap.size := by
      have := World.block_lt_of_cell? _ _ c0
      simpa [Addr.add] using this
    induction k with
    | zero => exact ⟨[], b, off, rfl, hb, rfl, fun j hj => by omega⟩
    | succ k ih =>
      obtain ⟨l, b', off', e, _, hl, hc⟩ := ih (by omega)
      simp only [Option.some.injEq, Addr.mk.injEq, and_true] at e
      obtain ⟨rfl, rfl⟩ := e
      obtain ⟨d, n, c0, w0, c1, w1⟩ := h3 k (by omega)
      have b0 := bounds_u8 w0
      have b1 := bounds_u8 w1
      obtain ⟨n0, rfl⟩ := Int.eq_ofNat_of_zero_le (show 0 ≤ d by omega)
      obtain ⟨n1, rfl⟩ := Int.eq_ofNat_of_zero_le (show 0 ≤ n by omega)
      rw [Addr.add_lit] at c0 c1
      refine ⟨l ++ [(n0, n1)], b, off, rfl, hb, by simp [hl], fun j hj => ?_⟩
      by_cases e : j < k
      · have := hc j e
        have e2 : (l ++ [(n0, n1)]).getD j (0, 0) = l.getD j (0, 0) := by
          simp only [List.getD_eq_getElem?_getD]
          rw [List.getElem?_append_left (by omega)]
        rw [e2]
        exact this
      · obtain rfl : j = k := by omega
        have : (l ++ [(n0, n1)]).getD j (0, 0) = (n0, n1) := by simp [← hl]
        rw [this]
        exact ⟨by simp only; omega, by simp only; omega, c0, c1⟩

theorem fits_of8 {l : List (Nat × Nat)} {k : Nat} (hl : l.length = k) (h : ∀ j, j < k → (l.getD j (0, 0)).1 < 256 ∧ (l.getD j (0, 0)).2 < 256) : Cap.fits l ∧ ∀ s ∈ l, s.2 < 256 := by
  refine ⟨fun j hj => ?_, fun s hs => ?_⟩
  · have := h j (by omega); omega
  · obtain ⟨j, hj, rfl⟩ := List.getElem_of_mem hs
    have := (h j (by omega)).2
    simpa [List.getD_eq_getElem?_getD, List.getElem?_eq_getElem hj] using this

end Go.Proofs.Ytajdhnhnknmedaa
