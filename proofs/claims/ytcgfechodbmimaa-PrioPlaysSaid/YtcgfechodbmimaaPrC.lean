/-
  The order of items: the code's and the document's.
-/
import Derived.Test.YtcgfechodbmimaaPrM
import Derived.Test.YtcgfechodbmimaaAppR
import Derived.Test.YtcgfechodbmimaaInv
import Derived.WalkSpells
import Derived.WalkLawsBesides
import Derived.Deep.RegionHeld3
import Derived.Deep.QuietTactic
import Derived.BigQuiet
namespace Go.Proofs.Ytcgfechodbmimaa
open Go.RowKit
set_option linter.unusedVariables false

def cel (x : It) : List Value := [.int .u32 x.1, .int .u8 x.2.1, .int .u32 x.2.2]
def itv (x : It) : Value := .agg #[.int .u32 x.1, .int .u8 x.2.1, .int .u32 x.2.2]
def cmp3 (a b : Int) : Int := if a < b then -1 else if b < a then 1 else 0
/-- Below 0, if a goes first. -/
def ordI (a b : It) : Int := if cmp3 b.2.1 a.2.1 ≠ 0 then cmp3 b.2.1 a.2.1 else if cmp3 a.2.2 b.2.2 ≠ 0 then cmp3 a.2.2 b.2.2 else cmp3 a.1 b.1
theorem ordI_bef (a b : It) : ordI a b < 0 ↔ Bef a b := by
  unfold ordI cmp3 Bef
  repeat' split
  all_goals omega
theorem ordI_rng (a b : It) : -1 ≤ ordI a b ∧ ordI a b ≤ 1 := by
  unfold ordI cmp3
  repeat' split
  all_goals omega

theorem nanb_any (a : Int) (w : World) : Calls Try.prog 39 #[.int .u8 a] w fun e w' => e = .returned (.bool false) ∧ w = w' := by
  go_enter Try.func39, Try.ntmps39
  go_wp2
  go_ret
  exact ⟨rfl, rfl⟩
set_option maxHeartbeats 1000000 in
theorem cmpb_any (a b : Int) (w : World) : Calls Try.prog 34 #[.int .u8 a, .int .u8 b] w fun e w' => e = .returned (.int .i64 (cmp3 a b)) ∧ w = w' := by
  rcases Int.lt_trichotomy a b with h | h | h
  · have H := hid (show cmp3 a b = -1 by unfold cmp3; rw [if_pos h])
    have d1 : decide (a < b) = true := decide_eq_true h
    go_enter Try.func34, Try.ntmps34
    go_wp2_with (first | (go_at_call 39; refine (nanb_any _ _).mono ?_; rintro e w' ⟨rfl, rfl⟩) | fail)
    go_ret
    rw [H.out]
    exact ⟨rfl, rfl⟩
  · subst h
    have H := hid (show cmp3 a a = 0 by unfold cmp3; rw [if_neg (Int.lt_irrefl a), if_neg (Int.lt_irrefl a)])
    go_enter Try.func34, Try.ntmps34
    go_wp2_with (first | (go_at_call 39; refine (nanb_any _ _).mono ?_; rintro e w' ⟨rfl, rfl⟩) | fail)
    go_ret
    rw [H.out]
    exact ⟨rfl, rfl⟩
  · have H := hid (show cmp3 a b = 1 by unfold cmp3; rw [if_neg (by omega), if_pos h])
    have d1 : decide (a < b) = false := decide_eq_false (by omega)
    have d2 : decide (b < a) = true := decide_eq_true h
    have d3 : decide (a > b) = true := decide_eq_true h
    go_enter Try.func34, Try.ntmps34
    go_wp2_with (first | (go_at_call 39; refine (nanb_any _ _).mono ?_; rintro e w' ⟨rfl, rfl⟩) | fail)
    go_ret
    rw [H.out]
    exact ⟨rfl, rfl⟩

theorem nanw_any (a : Int) (w : World) : Calls Try.prog 40 #[.int .u32 a] w fun e w' => e = .returned (.bool false) ∧ w = w' := by
  go_enter Try.func40, Try.ntmps40
  go_wp2
  go_ret
  exact ⟨rfl, rfl⟩
set_option maxHeartbeats 1000000 in
theorem cmpw_any (a b : Int) (w : World) : Calls Try.prog 35 #[.int .u32 a, .int .u32 b] w fun e w' => e = .returned (.int .i64 (cmp3 a b)) ∧ w = w' := by
  rcases Int.lt_trichotomy a b with h | h | h
  · have H := hid (show cmp3 a b = -1 by unfold cmp3; rw [if_pos h])
    have d1 : decide (a < b) = true := decide_eq_true h
    go_enter Try.func35, Try.ntmps35
    go_wp2_with (first | (go_at_call 40; refine (nanw_any _ _).mono ?_; rintro e w' ⟨rfl, rfl⟩) | fail)
    go_ret
    rw [H.out]
    exact ⟨rfl, rfl⟩
  · subst h
    have H := hid (show cmp3 a a = 0 by unfold cmp3; rw [if_neg (Int.lt_irrefl a), if_neg (Int.lt_irrefl a)])
    go_enter Try.func35, Try.ntmps35
    go_wp2_with (first | (go_at_call 40; refine (nanw_any _ _).mono ?_; rintro e w' ⟨rfl, rfl⟩) | fail)
    go_ret
    rw [H.out]
    exact ⟨rfl, rfl⟩
  · have H := hid (show cmp3 a b = 1 by unfold cmp3; rw [if_neg (by omega), if_pos h])
    have d1 : decide (a < b) = false := decide_eq_false (by omega)
    have d2 : decide (b < a) = true := decide_eq_true h
    have d3 : decide (a > b) = true := decide_eq_true h
    go_enter Try.func35, Try.ntmps35
    go_wp2_with (first | (go_at_call 40; refine (nanw_any _ _).mono ?_; rintro e w' ⟨rfl, rfl⟩) | fail)
    go_ret
    rw [H.out]
    exact ⟨rfl, rfl⟩

theorem alloc_cellc (w : World) (q o : Nat) (c : Obj) (h : q < w.heap.size) : (w.alloc c).cell? ⟨q, o, none⟩ = w.cell? ⟨q, o, none⟩ := ((Below.refl _ _).alloc (Nat.le_refl _) c).cell (p := ⟨q, o, none⟩) h
theorem alloc_cellcd (w : World) (q o : Nat) (c : Obj) (h : q < w.heap.size) : (w.alloc c).drew.cell? ⟨q, o, none⟩ = w.drew.cell? ⟨q, o, none⟩ := ((Below.refl _ _).alloc (Nat.le_refl _) c).cell (p := ⟨q, o, none⟩) h
/-- The first that isn't 0. -/
def orL : List Int → Int
  | [] => 0
  | x :: l => if x ≠ 0 then x else orL l
theorem orL_drop {l : List Int} {k : Nat} {x : Int} (h : l[k]? = some x) : orL (l.drop k) = if x ≠ 0 then x else orL (l.drop (k + 1)) := by
  have hk := (List.getElem?_eq_some_iff.1 h).1
  rw [List.drop_eq_getElem_cons hk]
  rw [List.getElem?_eq_getElem hk] at h
  rw [Option.some.inj h]
  rfl
set_option maxRecDepth 100000 in
set_option maxHeartbeats 4000000 in
theorem or_any (w : World) (g n : Nat) (l : List Int) (hn : n = l.length) (hl : n ≤ 1000) (h : ∀ k x, l[k]? = some x → w.cell? ⟨g, k, none⟩ = some (.int .i64 x)) :
    Calls Try.prog 33 #[.slice (some ⟨g, 0, none⟩) n n] w fun e w' => e = .returned (.int .i64 (orL l)) ∧ Below w.heap.size w w' := by
  have HC := hid h
  have HN := hid hn
  clear h hn
  go_enter Try.func33, Try.ntmps33
  go_wp2_with fail
  go_loopw [8] (fun i wr => ∃ k : Nat, k ≤ n ∧ i = .int .i64 k ∧ orL (l.drop k) = orL l ∧ Below w.heap.size w wr) (fun i _ => n - (intOf i).toNat)
  case atStart => exact ⟨0, Nat.zero_le _, rfl, rfl, Below.refl _ _⟩
  case round =>
    obtain ⟨k, hk, rfl, ho, hB⟩ := hrel
    have HO := hid ho
    have HB := hid hB
    by_cases hlt : k < n
    · obtain ⟨x, hx⟩ : ∃ x, l[k]? = some x := ⟨_, List.getElem?_eq_getElem (by have := HN.out; omega)⟩
      have hc0 := HC.out k x hx
      have hc : wr.cell? ⟨g, k, none⟩ = some (.int .i64 x) := (hB.cell (p := ⟨g, k, none⟩) (World.block_lt_of_cell? _ _ hc0)).trans hc0
      have hki : (k : Int) < (n : Int) := by omega
      have HD := hid (orL_drop hx)
      clear hc0 ho hB hx
      by_cases h0 : x = 0
      · have d : decide (x = 0) = true := decide_eq_true h0
        have HD2 := hid (show orL (l.drop (k + 1)) = orL l by rw [← HO.out, HD.out, if_neg (by simpa using h0)])
        subst h0
        go_wp2_with fail
        go_roundw
        case rel => exact ⟨k + 1, hlt, by go_num, HD2.out, HB.out⟩
        case measure => simp [intOf]; omega
      · have d : (x != 0) = true := by simpa using h0
        have HD2 := hid (show x = orL l by rw [← HO.out, HD.out, if_pos h0])
        clear h0
        go_wp2_with fail
        go_ret
        exact ⟨by rw [← HD2.out]; rfl, HB.out⟩
    · have e : k = n := by omega
      have hki : ¬ (k : Int) < (n : Int) := by omega
      have HD2 := hid (show orL l = 0 by rw [← ho, e, HN.out, List.drop_length]; rfl)
      clear e hlt ho hB
      go_wp2_with fail
      go_ret
      exact ⟨by rw [HD2.out]; rfl, HB.out⟩
theorem orL_ord (a b : It) : orL [cmp3 b.2.1 a.2.1, cmp3 a.2.2 b.2.2, cmp3 a.1 b.1] = ordI a b := by
  unfold ordI orL orL orL orL
  split
  · rfl
  · split
    · rfl
    · split
      · rfl
      · rename_i h; exact (Decidable.not_not.1 h).symm

set_option maxRecDepth 100000 in
set_option maxHeartbeats 8000000 in
theorem order_any (w : World) (a b : It) : Calls Try.prog 26 #[itv a, itv b] w fun e w' => e = .returned (.int .i64 (ordI a b)) ∧ Below w.heap.size w w' := by
  have HO := hid (orL_ord a b)
  obtain ⟨i, t, s⟩ := a
  obtain ⟨j, u, r⟩ := b
  unfold itv
  dsimp only at *
  generalize ordI (i, t, s) (j, u, r) = O at *
  go_enter Try.func26, Try.ntmps26
  go_wp2_with fail
  obtain ⟨x1, hx1⟩ : ∃ x1, x1 = w.alloc (.cells #[.int .u32 i, .int .u8 t, .int .u32 s] 32) := ⟨_, rfl⟩
  obtain ⟨x2, hx2⟩ : ∃ x2, x2 = x1.alloc (.cells #[.int .u32 j, .int .u8 u, .int .u32 r] 32) := ⟨_, rfl⟩
  have hs1 : x1.heap.size = w.heap.size + 1 := by rw [hx1]; simp
  have hs2 : x2.heap.size = w.heap.size + 2 := by rw [hx2]; simp [hs1]
  have hb1 : Below w.heap.size w x1 := by rw [hx1]; exact (Below.refl _ w).alloc (Nat.le_refl _) _
  have hb2 : Below x1.heap.size x1 x2 := by rw [hx2]; exact (Below.refl _ x1).alloc (Nat.le_refl _) _
  have g1 : x2.heap[w.heap.size]? = some (.cells #[.int .u32 i, .int .u8 t, .int .u32 s] 32 (0, 0)) := (hb2.block _ (by omega)).trans (by rw [hx1]; exact heap_alloc_new w _)
  have g2 : x2.heap[w.heap.size + 1]? = some (.cells #[.int .u32 j, .int .u8 u, .int .u32 r] 32 (0, 0)) := by rw [hx2, ← hs1]; exact heap_alloc_new x1 _
  have HB2 := hid (hb1.trans (hb2.mono (by omega)))
  rw [← hx1, ← hx2]
  have c0 : x2.drew.cell? ⟨w.heap.size, 0, none⟩ = some (.int .u32 i) := (cell_of_row x2 _ _ _ _ _ g1).trans rfl
  have c1 : x2.drew.cell? ⟨w.heap.size, 1, none⟩ = some (.int .u8 t) := (cell_of_row x2 _ _ _ _ _ g1).trans rfl
  have c2 : x2.drew.cell? ⟨w.heap.size, 2, none⟩ = some (.int .u32 s) := (cell_of_row x2 _ _ _ _ _ g1).trans rfl
  have d0 : x2.drew.cell? ⟨w.heap.size + 1, 0, none⟩ = some (.int .u32 j) := (cell_of_row x2 _ _ _ _ _ g2).trans rfl
  have d1 : x2.drew.cell? ⟨w.heap.size + 1, 1, none⟩ = some (.int .u8 u) := (cell_of_row x2 _ _ _ _ _ g2).trans rfl
  have d2 : x2.drew.cell? ⟨w.heap.size + 1, 2, none⟩ = some (.int .u32 r) := (cell_of_row x2 _ _ _ _ _ g2).trans rfl
  have HN3 := hid (fun (cs : Array Value) => show (x2.alloc (.cells cs 3)).drew.heap[w.heap.size + 2]? = some (.cells cs 3 (0, 0)) by rw [← hs2]; exact heap_alloc_new x2 _)
  clear hx1 hx2 hb1 hb2 g1 g2 hs1
  go_region_held3 (fun w' => w'.cell? ⟨w.heap.size, 0, none⟩ = some (.int .u32 i) ∧ w'.cell? ⟨w.heap.size, 1, none⟩ = some (.int .u8 t) ∧ w'.cell? ⟨w.heap.size, 2, none⟩ = some (.int .u32 s) ∧ w'.cell? ⟨w.heap.size + 1, 0, none⟩ = some (.int .u32 j) ∧ w'.cell? ⟨w.heap.size + 1, 1, none⟩ = some (.int .u8 u) ∧ w'.cell? ⟨w.heap.size + 1, 2, none⟩ = some (.int .u32 r))
    (first | (with_reducible refine ⟨?_, ?_, ?_, ?_, ?_, ?_⟩ <;> assumption) | (with_reducible refine ⟨(alloc_cellcd _ _ _ _ ?_).trans ?_, (alloc_cellcd _ _ _ _ ?_).trans ?_, (alloc_cellcd _ _ _ _ ?_).trans ?_, (alloc_cellcd _ _ _ _ ?_).trans ?_, (alloc_cellcd _ _ _ _ ?_).trans ?_, (alloc_cellcd _ _ _ _ ?_).trans ?_⟩ <;> first | assumption | omega) | fail)
    (first
      | (go_at_call 34; refine (cmpb_any _ _ _).mono ?_; rintro e w' ⟨rfl, rfl⟩)
      | (go_at_call 35; refine (cmpw_any _ _ _).mono ?_; rintro e w' ⟨rfl, rfl⟩)
      | (go_at_call 33; refine (or_any _ _ 3 [cmp3 u t, cmp3 s r, cmp3 i j] rfl (by omega) (by intro k x hk; rw [cell_of_row _ _ _ _ _ _ (HN3.out _)]; match k, hk with | 0, hk => (cases hk; rfl) | 1, hk => (cases hk; rfl) | 2, hk => (cases hk; rfl) | k + 3, hk => cases hk)).mono ?_; rintro e y ⟨rfl, hy⟩; rw [HO.out]; have HY := hid (((Below.refl _ x2).alloc (Nat.le_refl _) _).drew.trans (hy.mono (by show x2.heap.size ≤ (x2.alloc _).heap.size; rw [World.size_alloc]; omega))); have r0 := (HY.out.cell (p := ⟨w.heap.size, 0, none⟩) (by show w.heap.size < x2.heap.size; omega)).trans c0; have r1 := (HY.out.cell (p := ⟨w.heap.size, 1, none⟩) (by show w.heap.size < x2.heap.size; omega)).trans c1; have r2 := (HY.out.cell (p := ⟨w.heap.size, 2, none⟩) (by show w.heap.size < x2.heap.size; omega)).trans c2; have r3 := (HY.out.cell (p := ⟨w.heap.size + 1, 0, none⟩) (by show w.heap.size + 1 < x2.heap.size; omega)).trans d0; have r4 := (HY.out.cell (p := ⟨w.heap.size + 1, 1, none⟩) (by show w.heap.size + 1 < x2.heap.size; omega)).trans d1; have r5 := (HY.out.cell (p := ⟨w.heap.size + 1, 2, none⟩) (by show w.heap.size + 1 < x2.heap.size; omega)).trans d2; clear hy)
      | fail)
  go_wp2
  go_ret
  exact ⟨rfl, HB2.out.trans (HY.out.mono (by omega))⟩

theorem first11_any (w : World) (a b : It) : Calls Try.prog 77 #[itv a, itv b] w fun e w' => e = .returned (.bool (decide (Bef a b))) ∧ Below w.heap.size w w' := by
  have HO := hid (fun W => order_any W a b)
  have HD := hid (show decide (ordI a b < 0) = decide (Bef a b) from decide_eq_decide.2 (ordI_bef a b))
  generalize ordI a b = O at *
  generalize decide (Bef a b) = R at *
  obtain ⟨i, t, s⟩ := a
  obtain ⟨j, u, r⟩ := b
  unfold itv at *
  dsimp only at *
  go_enter Try.func77, Try.ntmps77
  go_wp2_with fail
  obtain ⟨x1, hx1⟩ : ∃ x1, x1 = w.alloc (.cells #[.int .u32 i, .int .u8 t, .int .u32 s] 32) := ⟨_, rfl⟩
  obtain ⟨x2, hx2⟩ : ∃ x2, x2 = x1.alloc (.cells #[.int .u32 j, .int .u8 u, .int .u32 r] 32) := ⟨_, rfl⟩
  have hs1 : x1.heap.size = w.heap.size + 1 := by rw [hx1]; simp
  have hb1 : Below w.heap.size w x1 := by rw [hx1]; exact (Below.refl _ w).alloc (Nat.le_refl _) _
  have hb2 : Below x1.heap.size x1 x2 := by rw [hx2]; exact (Below.refl _ x1).alloc (Nat.le_refl _) _
  have hs2 := hb2.size
  have g1 : x2.heap[w.heap.size]? = some (.cells #[.int .u32 i, .int .u8 t, .int .u32 s] 32 (0, 0)) := (hb2.block _ (by omega)).trans (by rw [hx1]; exact heap_alloc_new w _)
  have g2 : x2.heap[w.heap.size + 1]? = some (.cells #[.int .u32 j, .int .u8 u, .int .u32 r] 32 (0, 0)) := by rw [hx2, ← hs1]; exact heap_alloc_new x1 _
  have HB2 := hid (hb1.trans (hb2.mono (by omega)))
  rw [← hx1, ← hx2]
  have c0 : x2.cell? ⟨w.heap.size, 0, none⟩ = some (.int .u32 i) := (cell_of_row x2 _ _ _ _ _ g1).trans rfl
  have c1 : x2.cell? ⟨w.heap.size, 1, none⟩ = some (.int .u8 t) := (cell_of_row x2 _ _ _ _ _ g1).trans rfl
  have c2 : x2.cell? ⟨w.heap.size, 2, none⟩ = some (.int .u32 s) := (cell_of_row x2 _ _ _ _ _ g1).trans rfl
  have d0 : x2.cell? ⟨w.heap.size + 1, 0, none⟩ = some (.int .u32 j) := (cell_of_row x2 _ _ _ _ _ g2).trans rfl
  have d1 : x2.cell? ⟨w.heap.size + 1, 1, none⟩ = some (.int .u8 u) := (cell_of_row x2 _ _ _ _ _ g2).trans rfl
  have d2 : x2.cell? ⟨w.heap.size + 1, 2, none⟩ = some (.int .u32 r) := (cell_of_row x2 _ _ _ _ _ g2).trans rfl
  have HSZ := hid (show w.heap.size ≤ x2.heap.size by omega)
  clear hx1 hx2 hb1 hb2 g1 g2 hs1 hs2
  go_wp2_with (first | (go_at_call 26; refine (HO.out _).mono ?_; rintro e w' ⟨rfl, hb⟩; have HB := hid hb; clear hb) | fail)
  go_ret
  exact ⟨by rw [← HD.out]; rfl, HB2.out.trans (HB.out.mono HSZ.out)⟩

end Go.Proofs.Ytcgfechodbmimaa
