/-
  cmp.Compare, cmp.Or.
-/
import Derived.Test.YtdongghjchnpbaaVcK
import Derived.WalkSpells
import Derived.WalkLawsBesides
import Derived.Deep.RegionHeld3
import Derived.Deep.QuietTactic
import Derived.BigQuiet
namespace Go.Proofs.Ytdongghjchnpbaa
open Go.RowKit
set_option linter.unusedVariables false
set_option linter.unusedSimpArgs false

def cmp3 (a b : Int) : Int := if a < b then -1 else if b < a then 1 else 0
theorem nanb_any (a : Int) (w : World) : Calls Try.prog 97 #[.int .u8 a] w fun e w' => e = .returned (.bool false) ∧ w = w' := by
  go_enter Try.func97, Try.ntmps97
  go_wp2
  go_ret
  exact ⟨rfl, rfl⟩
set_option maxHeartbeats 1000000 in
theorem cmpb_any (a b : Int) (w : World) : Calls Try.prog 81 #[.int .u8 a, .int .u8 b] w fun e w' => e = .returned (.int .i64 (cmp3 a b)) ∧ w = w' := by
  rcases Int.lt_trichotomy a b with h | h | h
  · have H := hid (show cmp3 a b = -1 by unfold cmp3; rw [if_pos h])
    have d1 : decide (a < b) = true := decide_eq_true h
    go_enter Try.func81, Try.ntmps81
    go_wp2_with (first | (go_at_call 97; refine (nanb_any _ _).mono ?_; rintro e w' ⟨rfl, rfl⟩) | fail)
    go_ret
    rw [H.out]
    exact ⟨rfl, rfl⟩
  · subst h
    have H := hid (show cmp3 a a = 0 by unfold cmp3; rw [if_neg (Int.lt_irrefl a), if_neg (Int.lt_irrefl a)])
    go_enter Try.func81, Try.ntmps81
    go_wp2_with (first | (go_at_call 97; refine (nanb_any _ _).mono ?_; rintro e w' ⟨rfl, rfl⟩) | fail)
    go_ret
    rw [H.out]
    exact ⟨rfl, rfl⟩
  · have H := hid (show cmp3 a b = 1 by unfold cmp3; rw [if_neg (by omega), if_pos h])
    have d1 : decide (a < b) = false := decide_eq_false (by omega)
    have d2 : decide (b < a) = true := decide_eq_true h
    have d3 : decide (a > b) = true := decide_eq_true h
    go_enter Try.func81, Try.ntmps81
    go_wp2_with (first | (go_at_call 97; refine (nanb_any _ _).mono ?_; rintro e w' ⟨rfl, rfl⟩) | fail)
    go_ret
    rw [H.out]
    exact ⟨rfl, rfl⟩

theorem nanw_any (a : Int) (w : World) : Calls Try.prog 98 #[.int .u32 a] w fun e w' => e = .returned (.bool false) ∧ w = w' := by
  go_enter Try.func98, Try.ntmps98
  go_wp2
  go_ret
  exact ⟨rfl, rfl⟩
set_option maxHeartbeats 1000000 in
theorem cmpw_any (a b : Int) (w : World) : Calls Try.prog 82 #[.int .u32 a, .int .u32 b] w fun e w' => e = .returned (.int .i64 (cmp3 a b)) ∧ w = w' := by
  rcases Int.lt_trichotomy a b with h | h | h
  · have H := hid (show cmp3 a b = -1 by unfold cmp3; rw [if_pos h])
    have d1 : decide (a < b) = true := decide_eq_true h
    go_enter Try.func82, Try.ntmps82
    go_wp2_with (first | (go_at_call 98; refine (nanw_any _ _).mono ?_; rintro e w' ⟨rfl, rfl⟩) | fail)
    go_ret
    rw [H.out]
    exact ⟨rfl, rfl⟩
  · subst h
    have H := hid (show cmp3 a a = 0 by unfold cmp3; rw [if_neg (Int.lt_irrefl a), if_neg (Int.lt_irrefl a)])
    go_enter Try.func82, Try.ntmps82
    go_wp2_with (first | (go_at_call 98; refine (nanw_any _ _).mono ?_; rintro e w' ⟨rfl, rfl⟩) | fail)
    go_ret
    rw [H.out]
    exact ⟨rfl, rfl⟩
  · have H := hid (show cmp3 a b = 1 by unfold cmp3; rw [if_neg (by omega), if_pos h])
    have d1 : decide (a < b) = false := decide_eq_false (by omega)
    have d2 : decide (b < a) = true := decide_eq_true h
    have d3 : decide (a > b) = true := decide_eq_true h
    go_enter Try.func82, Try.ntmps82
    go_wp2_with (first | (go_at_call 98; refine (nanw_any _ _).mono ?_; rintro e w' ⟨rfl, rfl⟩) | fail)
    go_ret
    rw [H.out]
    exact ⟨rfl, rfl⟩

theorem nani_any (a : Int) (w : World) : Calls Try.prog 83 #[.int .i64 a] w fun e w' => e = .returned (.bool false) ∧ w = w' := by
  go_enter Try.func83, Try.ntmps83
  go_wp2
  go_ret
  exact ⟨rfl, rfl⟩
set_option maxHeartbeats 1000000 in
theorem cmpi_any (a b : Int) (w : World) : Calls Try.prog 67 #[.int .i64 a, .int .i64 b] w fun e w' => e = .returned (.int .i64 (cmp3 a b)) ∧ w = w' := by
  rcases Int.lt_trichotomy a b with h | h | h
  · have H := hid (show cmp3 a b = -1 by unfold cmp3; rw [if_pos h])
    have d1 : decide (a < b) = true := decide_eq_true h
    go_enter Try.func67, Try.ntmps67
    go_wp2_with (first | (go_at_call 83; refine (nani_any _ _).mono ?_; rintro e w' ⟨rfl, rfl⟩) | fail)
    go_ret
    rw [H.out]
    exact ⟨rfl, rfl⟩
  · subst h
    have H := hid (show cmp3 a a = 0 by unfold cmp3; rw [if_neg (Int.lt_irrefl a), if_neg (Int.lt_irrefl a)])
    go_enter Try.func67, Try.ntmps67
    go_wp2_with (first | (go_at_call 83; refine (nani_any _ _).mono ?_; rintro e w' ⟨rfl, rfl⟩) | fail)
    go_ret
    rw [H.out]
    exact ⟨rfl, rfl⟩
  · have H := hid (show cmp3 a b = 1 by unfold cmp3; rw [if_neg (by omega), if_pos h])
    have d1 : decide (a < b) = false := decide_eq_false (by omega)
    have d2 : decide (b < a) = true := decide_eq_true h
    have d3 : decide (a > b) = true := decide_eq_true h
    go_enter Try.func67, Try.ntmps67
    go_wp2_with (first | (go_at_call 83; refine (nani_any _ _).mono ?_; rintro e w' ⟨rfl, rfl⟩) | fail)
    go_ret
    rw [H.out]
    exact ⟨rfl, rfl⟩

theorem alloc_cellc (w : World) (q o : Nat) (c : Obj) (h : q < w.heap.size) : (w.alloc c).cell? ⟨q, o, none⟩ = w.cell? ⟨q, o, none⟩ := ((Below.refl _ _).alloc (Nat.le_refl _) c).cell (p := ⟨q, o, none⟩) h
theorem alloc_cellcd (w : World) (q o : Nat) (c : Obj) (h : q < w.heap.size) : (w.alloc c).drew.cell? ⟨q, o, none⟩ = w.drew.cell? ⟨q, o, none⟩ := ((Below.refl _ _).alloc (Nat.le_refl _) c).cell (p := ⟨q, o, none⟩) h
/-- The first that isn't 0. -/
def orL : List Int → Int
  | [] => 0
  | x :: l => if x ≠ 0 then x else orL l
theorem orL_drop {l : List Int} {k : Nat} {x : Int} (h : l[k]? = some x) : orL (l.drop k) = if x ≠ 0 then x else orL (l.drop (k + 1)) := by
  have hk := (List.getElem?_eq_some_iff.1 h).1
  rw [List.drop_eq_getElem_cons hk]
  rw [List.getElem?_eq_getElem hk] at h
  rw [Option.some.inj h]
  rfl
set_option maxRecDepth 100000 in
set_option maxHeartbeats 4000000 in
theorem or_grw (w : World) (g n : Nat) (l : List Int) (hn : n = l.length) (hl : n ≤ 1000) (h : ∀ k x, l[k]? = some x → w.cell? ⟨g, k, none⟩ = some (.int .i64 x)) :
    Calls Try.prog 66 #[.slice (some ⟨g, 0, none⟩) n n] w fun e w' => e = .returned (.int .i64 (orL l)) ∧ Below w.heap.size w w' ∧ w.drawn ≤ w'.drawn := by
  have HC := hid h
  have HN := hid hn
  clear h hn
  go_enter Try.func66, Try.ntmps66
  go_wp2_with fail
  go_loopw [8] (fun i wr => ∃ k : Nat, k ≤ n ∧ i = .int .i64 k ∧ orL (l.drop k) = orL l ∧ Below w.heap.size w wr ∧ w.drawn ≤ wr.drawn) (fun i _ => n - (intOf i).toNat)
  case atStart => exact ⟨0, Nat.zero_le _, rfl, rfl, Below.refl _ _, Nat.le_refl _⟩
  case round =>
    obtain ⟨k, hk, rfl, ho, hB, hdr⟩ := hrel
    have HDR := hid hdr
    clear hdr
    have HO := hid ho
    have HB := hid hB
    by_cases hlt : k < n
    · obtain ⟨x, hx⟩ : ∃ x, l[k]? = some x := ⟨_, List.getElem?_eq_getElem (by have := HN.out; omega)⟩
      have hc0 := HC.out k x hx
      have hc : wr.cell? ⟨g, k, none⟩ = some (.int .i64 x) := (hB.cell (p := ⟨g, k, none⟩) (World.block_lt_of_cell? _ _ hc0)).trans hc0
      have hki : (k : Int) < (n : Int) := by omega
      have HD := hid (orL_drop hx)
      clear hc0 ho hB hx
      by_cases h0 : x = 0
      · have d : decide (x = 0) = true := decide_eq_true h0
        have HD2 := hid (show orL (l.drop (k + 1)) = orL l by rw [← HO.out, HD.out, if_neg (by simpa using h0)])
        subst h0
        go_wp2_with fail
        go_roundw
        case rel => exact ⟨k + 1, hlt, by go_num, HD2.out, HB.out, HDR.out⟩
        case measure => simp [intOf]; omega
      · have d : (x != 0) = true := by simpa using h0
        have HD2 := hid (show x = orL l by rw [← HO.out, HD.out, if_pos h0])
        clear h0
        go_wp2_with fail
        go_ret
        exact ⟨by rw [← HD2.out]; rfl, HB.out, HDR.out⟩
    · have e : k = n := by omega
      have hki : ¬ (k : Int) < (n : Int) := by omega
      have HD2 := hid (show orL l = 0 by rw [← ho, e, HN.out, List.drop_length]; rfl)
      clear e hlt ho hB
      go_wp2_with fail
      go_ret
      exact ⟨by rw [HD2.out]; rfl, HB.out, HDR.out⟩

end Go.Proofs.Ytdongghjchnpbaa
