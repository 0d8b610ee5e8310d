/-
  Layer 6: a map of places: Take.
-/
import Derived.Test.YtbagpckiegpalaaBmI
import Derived.Test.YtbagpckiegpalaaMpE
namespace Go.Proofs.Ytbagpckiegpalaa
open Go.RowKit
set_option linter.unusedVariables false
set_option linter.unusedSimpArgs false

theorem takeR_zero {F : List (Int × Int)} {lo hi : Int} (h : RunsFrom lo F hi) : takeR F 0 = F ∧ firstsR F 0 = [] := by
  cases F with
  | nil => exact ⟨rfl, rfl⟩
  | cons x l =>
    obtain ⟨f, u⟩ := x
    obtain ⟨h1, h2, h3, h4⟩ := h
    have e : ((0 : Nat) : Int) < u - f := by omega
    simp only [takeR, firstsR, if_pos e]
    exact ⟨by simp, by simp⟩

theorem takeR_one {F : List (Int × Int)} {lo hi f u : Int} {k : Nat} {R : List (Int × Int)} (h : RunsFrom lo F hi) (ht : takeR F k = (f, u) :: R) :
    takeR F (k + 1) = (if f + 1 < u then (f + 1, u) :: R else R) ∧ firstsR F (k + 1) = firstsR F k ++ [f] := by
  induction F generalizing lo k with
  | nil => cases ht
  | cons x l ih =>
    obtain ⟨a, b⟩ := x
    obtain ⟨h1, h2, h3, h4⟩ := h
    simp only [takeR, firstsR] at ht ⊢
    by_cases hb : (k : Int) < b - a
    · rw [if_pos hb] at ht
      simp only [List.cons.injEq, Prod.mk.injEq] at ht
      obtain ⟨⟨e1, e2⟩, e3⟩ := ht
      subst e1 e2 e3
      rw [if_pos hb]
      by_cases hc : ((k + 1 : Nat) : Int) < b - a
      · rw [if_pos hc, if_pos hc, if_pos (by omega)]
        refine ⟨by simp only [List.cons.injEq, Prod.mk.injEq, and_true]; omega, ?_⟩
        rw [List.range_succ, List.map_append]
        rfl
      · rw [if_neg hc, if_neg hc, if_neg (by omega)]
        have e : (b - a).toNat = k + 1 := by omega
        obtain ⟨z1, z2⟩ := takeR_zero h4
        rw [e, Nat.sub_self, z1, z2, List.append_nil, List.range_succ, List.map_append]
        exact ⟨rfl, rfl⟩
    · rw [if_neg hb] at ht ⊢
      have hc : ¬ ((k + 1 : Nat) : Int) < b - a := by omega
      rw [if_neg hc, if_neg hc, show k + 1 - (b - a).toNat = (k - (b - a).toNat) + 1 by omega]
      obtain ⟨r1, r2⟩ := ih h4 ht
      exact ⟨r1, by rw [r2, List.append_assoc]⟩

theorem takeR_head {F : List (Int × Int)} {lo hi : Int} {k : Nat} (h : RunsFrom lo F hi) (hk : (k : Int) < runSum F) : ∃ f u R, takeR F k = (f, u) :: R ∧ f < u ∧ lo ≤ f ∧ u ≤ hi := by
  obtain ⟨r1, r2, r3, r4⟩ := takeR_runs (n := k) h (by omega)
  cases ht : takeR F k with
  | nil => rw [ht] at r3; simp only [runSum] at r3; omega
  | cons x R =>
    obtain ⟨f, u⟩ := x
    rw [ht] at r1
    obtain ⟨h1, h2, h3, h4⟩ := r1
    exact ⟨f, u, R, rfl, h2, h1, h3⟩

theorem firstsR_len {F : List (Int × Int)} {lo hi : Int} {k : Nat} (h : RunsFrom lo F hi) (hk : (k : Int) ≤ runSum F) : (firstsR F k).length = k := (takeR_runs h hk).2.2.2

theorem runCells_set (X : List (Int × Int)) (k : Nat) (f u f' : Int) (h : X[k]? = some (f, u)) : (runCells X).set (k * 2) (.int .i64 f') = runCells (X.set k (f', u)) := by
  induction X generalizing k with
  | nil => simp at h
  | cons x l ih =>
    obtain ⟨a, b⟩ := x
    cases k with
    | zero => simp at h; obtain ⟨rfl, rfl⟩ := h; rfl
    | succ k =>
      rw [show (k + 1) * 2 = k * 2 + 1 + 1 by omega]
      simp only [runCells, List.set_cons_succ]
      rw [ih k (by simpa using h)]

/-- Within Take: the places l are told, X is what is left of the runs. -/
structure TkG (w wr : World) (b g : Nat) (size left : Int) (v : Value) (l : List Int) (X : List (Int × Int)) (N C : Nat) (sp : List Value) : Prop where
  map : wr.heap[b]? = some (.cells #[.int .i64 size, .int .i64 left, .slice (some ⟨g, 0, none⟩) N C] 114 (0, 0))
  run : wr.heap[g]? = some (.cells (runCells X ++ sp).toArray 116 (0, 0))
  len : X.length = N
  own : wr.ownsRow w.heap.size 3 1 v l.length (l.map (Value.int .i64))
  kp : Keeps (fun i => i = g) w wr

theorem TkG.at {w wr : World} {b g : Nat} {size left : Int} {v : Value} {l : List Int} {X : List (Int × Int)} {N C : Nat} {sp : List Value} (h : TkG w wr b g size left v l X N C sp) (k : Nat) (f u : Int) (hk : X[k]? = some (f, u)) :
    wr.cell? ⟨g, k * 2, none⟩ = some (.int .i64 f) ∧ wr.cell? ⟨g, k * 2 + 1, none⟩ = some (.int .i64 u) ∧ wr.frozen? ⟨g, k * 2, none⟩ = false := by
  obtain ⟨h0, h1⟩ := runCells_at X k f u hk
  have hl : k < X.length := (List.getElem?_eq_some_iff.1 hk).1
  have hc := runCells_length X
  refine ⟨(cell_of_row wr _ _ _ _ _ h.run).trans ?_, (cell_of_row wr _ _ _ _ _ h.run).trans ?_, frozen_of_row _ _ _ _ _ h.run⟩
  · rw [← h0]; simp [List.getElem?_append_left (show k * 2 < (runCells X).length by omega)]
  · rw [← h1]; simp [List.getElem?_append_left (show k * 2 + 1 < (runCells X).length by omega)]

theorem TkG.drewN {w wr : World} {b g : Nat} {size left : Int} {v : Value} {l : List Int} {X : List (Int × Int)} {N C : Nat} {sp : List Value} (h : TkG w wr b g size left v l X N C sp) (m : Nat) : TkG w (wr.drewN m) b g size left v l X N C sp :=
  ⟨h.map, h.run, h.len, owns_below h.own (below_behindB (Below.refl _ wr) m), ⟨h.kp.os, h.kp.tape, h.kp.output, h.kp.size, h.kp.block⟩⟩

theorem tkg_app {w wr : World} {b g k : Nat} {size left f : Int} {ua : Option Addr} {uc : Nat} {l : List Int} {X : List (Int × Int)} {N C : Nat} {sp : List Value} (h : TkG w wr b g size left (.slice ua k uc) l X N C sp) (hk : l.length = k) (hn : k ≤ 1000000) :
    ∃ ad cap w2, (Builtin.append_ #[70, 70] 70 #[.slice ua k uc, .slice (some ⟨wr.heap.size, 0, none⟩) 1 1]).run Try.prog (wr.alloc (.cells #[.int .i64 f] 3)) = .ok (.slice ad (k + 1) cap) w2 ∧ TkG w w2 b g size left (.slice ad (k + 1) cap) (l ++ [f]) X N C sp := by
  subst hk
  have hb : Below wr.heap.size wr (wr.alloc (.cells #[.int .i64 f] 3)) := (Below.refl _ wr).alloc (Nat.le_refl _) _
  obtain ⟨ad, cap, w2, h1, h2, h3, h4⟩ := run_apps2 (wr.alloc (.cells #[.int .i64 f] 3)) 70 w.heap.size 70 3 1 8 (.int .i64 0) Try.underlying70 (by kernel_rfl) rfl (by omega) (.slice ua l.length uc) (.slice (some ⟨wr.heap.size, 0, none⟩) 1 1) l.length 1 (l.map (Value.int .i64)) [.int .i64 f] (owns_below h.own hb) (SrcC.lit wr _ _ 1 _ rfl) rfl (by simp [Value.oneCell']) (by omega) (by omega) (Nat.le_trans h.kp.size hb.size)
  have hlm := (Array.getElem?_eq_some_iff.1 h.map).1
  have hlr := (Array.getElem?_eq_some_iff.1 h.run).1
  refine ⟨ad, cap, w2, h1, ⟨?_, ?_, h.len, ?_, ?_⟩⟩
  · exact (h3.block b (by have := hb.size; omega) (fun e => owns_ne h.own h.map (by decide) b e.symm rfl)).trans ((hb.block b hlm).trans h.map)
  · exact (h3.block g (by have := hb.size; omega) (fun e => owns_ne h.own h.run (by decide) g e.symm rfl)).trans ((hb.block g hlr).trans h.run)
  · rw [List.map_append, List.length_append]
    exact h2
  · exact (h.kp.alloc _).trans' (Keeps.of_grown h3) (fun i hi e => absurd (World.ownsRow.lt h.own i e).1 (by omega))

theorem tkg_set {w wr : World} {b g W : Nat} {size left f u f' : Int} {v : Value} {l : List Int} {X : List (Int × Int)} {N C : Nat} {sp : List Value} (h : TkG w wr b g size left v l X N C sp) (hbg : b ≠ g) (hW : X[W]? = some (f, u)) :
    TkG w (wr.setCell ⟨g, W * 2, none⟩ (.int .i64 f')) b g size left v l (X.set W (f', u)) N C sp := by
  have hl : W < X.length := (List.getElem?_eq_some_iff.1 hW).1
  have hc := runCells_length X
  refine ⟨(setCell_else wr g (W * 2) b _ hbg).trans h.map, ?_, by rw [List.length_set]; exact h.len, owns_by h.own (fun q hq => setCell_else wr g (W * 2) q _ (owns_ne h.own h.run (by decide) q hq)), h.kp.setCell (p := ⟨g, W * 2, none⟩) (fun _ => rfl) _⟩
  refine (setCell_heapS _ _ _ _ _ _ _ h.run).trans ?_
  rw [← runCells_set X W f u f' hW]
  simp only [List.setIfInBounds_toArray]
  rw [List.set_append_left _ _ (by omega)]

theorem delete_none2 (w : World) (g n cap : Nat) (hnc : n ≤ cap) :
    Calls Try.prog 54 #[.slice (some ⟨g, 0, none⟩) n cap, .int .i64 0, .int .i64 0] w fun e w' => e = .returned (.slice (some ⟨g, 0, none⟩) n cap) ∧ w = w' := by
  have q : (n : Int) ≤ (cap : Int) := by omega
  clear hnc
  go_enter Try.func54, Try.ntmps54
  go_wp2_with fail
  go_ret
  exact ⟨rfl, rfl⟩

/-- DELETE of the first m runs. -/
theorem delete_any (w : World) (base g n cap m : Nat) (xs : List Value) (h : w.ownsRow base 116 2 (.slice (some ⟨g, 0, none⟩) n cap) n xs) (hmn : m ≤ n) (hn : n ≤ 1000000) (h1 : ∀ u ∈ xs, u.oneCell' = true) :
    Calls Try.prog 54 #[.slice (some ⟨g, 0, none⟩) n cap, .int .i64 0, .int .i64 (m : Int)] w fun e w' => e = .returned (.slice (some ⟨g, 0, none⟩) (n - m) cap) ∧ w'.ownsRow base 116 2 (.slice (some ⟨g, 0, none⟩) (n - m) cap) (n - m) (xs.drop (m * 2)) ∧ Keeps (fun k => k = g) w w' := by
  rcases Nat.eq_zero_or_pos m with rfl | hm
  · obtain ⟨cur, hg, hsz, htk, hcap, hcm, hb⟩ := owns_setRow h
    refine (delete_none2 w g n cap hcap).mono ?_
    rintro e w' ⟨rfl, rfl⟩
    exact ⟨rfl, by simpa using h, Keeps.refl _ _⟩
  · exact delete_front w base g n cap m xs h hm hmn hn h1

/-- A run's rest within the inner loop. -/
def InRel (w : World) (b g : Nat) (size left : Int) (F : List (Int × Int)) (N C : Nat) (sp : List Value) (n W k0 : Nat) (x : Value) (wr : World) : Prop :=
  ∃ (ua : Option Addr) (uc k : Nat) (X : List (Int × Int)) (f u : Int), x = .slice ua k uc ∧ k0 ≤ k ∧ k ≤ n ∧ (k0 < k ∨ f < u) ∧ TkG w wr b g size left (.slice ua k uc) (firstsR F k) X N C sp ∧ X[W]? = some (f, u) ∧ 0 ≤ f ∧ f ≤ u ∧ u ≤ 1000000 ∧ ((f < u ∧ takeR F k = (f, u) :: X.drop (W + 1)) ∨ (f = u ∧ takeR F k = X.drop (W + 1)))

/-- Between runs. -/
def OutRel (w : World) (b g : Nat) (size left : Int) (F : List (Int × Int)) (N C : Nat) (sp : List Value) (n : Nat) (x y : Value) (wr : World) : Prop :=
  ∃ (ua : Option Addr) (uc k W : Nat) (X : List (Int × Int)), x = .slice ua k uc ∧ y = .int .i64 (W : Int) ∧ k ≤ n ∧ W ≤ N ∧ TkG w wr b g size left (.slice ua k uc) (firstsR F k) X N C sp ∧ X.drop W = takeR F k

theorem drop_head {X : List (Int × Int)} {W : Nat} {x : Int × Int} {R : List (Int × Int)} (h : X.drop W = x :: R) : X[W]? = some x ∧ R = X.drop (W + 1) := by
  have h0 : (X.drop W)[0]? = some x := by rw [h]; rfl
  rw [List.getElem?_drop, Nat.add_zero] at h0
  refine ⟨h0, ?_⟩
  have h1 : (X.drop W).drop 1 = R := by rw [h]; rfl
  rw [List.drop_drop] at h1
  exact h1.symm

end Go.Proofs.Ytbagpckiegpalaa
