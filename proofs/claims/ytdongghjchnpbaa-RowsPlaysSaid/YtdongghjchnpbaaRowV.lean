/-
  Contracts: Row where there is none; Next; Fill.
-/
import Derived.Test.YtdongghjchnpbaaRowU
namespace Go.Proofs.Ytdongghjchnpbaa
open Go.RowKit Go.Shelf
set_option linter.unusedVariables false
attribute [local go_sem] Oper.semAt_some

theorem row_no (w : World) (b : Nat) (m : Mx) (row : Int) (h : MxAt w b m) (hrow : row < 0 ∨ (m.r : Int) ≤ row) :
    Calls Try.prog 47 #[.pointer (some ⟨b, 0, none⟩), .int .i64 row] w fun e w' => e = .returned (.slice none 0 0) ∧ Below w.heap.size w w' := by
  have HH := hid h
  have HB := hid h.lt
  have HR := hid hrow
  clear h hrow
  refine (callsIn_wide (n := 5)).1 ?_
  refine callsIn_of_wp_marks Try.func47 rfl trivial ?_ rfl
  simp only [Try.ntmps47, List.size_toArray, List.length_cons, List.length_nil, Nat.reduceAdd, Nat.reduceSub, Array.replicate_succ, Array.replicate_zero, List.push_toArray, List.append_toArray, List.nil_append, List.cons_append]
  have h1 : Below w.heap.size w ((w.alloc (.cells #[.pointer (some ⟨b, 0, none⟩)] 24)).alloc (.cells #[.int .i64 row] 3)) := ((Below.refl _ w).alloc (Nat.le_refl _) _).alloc (by simp) _
  have HB1 := hid h1
  gi_wp2_with fail
  refine ⟨trivial, (callsIn_wide.2 (hasrow_no _ b m row (HH.out.below h1 HB.out) HR.out)).mono ?_⟩
  rintro e w' ⟨rfl, rfl⟩
  clear h1
  gi_wp2
  exact ⟨_, results_tmp rfl _ _ _, rfl, HB1.out⟩

theorem row_nil (w : World) (row : Int) :
    Calls Try.prog 47 #[.pointer none, .int .i64 row] w fun e w' => e = .returned (.slice none 0 0) ∧ Below w.heap.size w w' := by
  refine (callsIn_wide (n := 5)).1 ?_
  refine callsIn_of_wp_marks Try.func47 rfl trivial ?_ rfl
  simp only [Try.ntmps47, List.size_toArray, List.length_cons, List.length_nil, Nat.reduceAdd, Nat.reduceSub, Array.replicate_succ, Array.replicate_zero, List.push_toArray, List.append_toArray, List.nil_append, List.cons_append]
  have h1 : Below w.heap.size w ((w.alloc (.cells #[.pointer none] 24)).alloc (.cells #[.int .i64 row] 3)) := ((Below.refl _ w).alloc (Nat.le_refl _) _).alloc (by simp) _
  have HB1 := hid h1
  gi_wp2_with fail
  refine ⟨trivial, (callsIn_wide.2 (hasrow_nil _ row)).mono ?_⟩
  rintro e w' ⟨rfl, rfl⟩
  clear h1
  gi_wp2
  exact ⟨_, results_tmp rfl _ _ _, rfl, HB1.out⟩

/-- The row from which Next goes on: the one behind it, or 0. -/
def Mx.from (m : Mx) (row : Int) : Nat := if 0 ≤ row ∧ row < m.r then row.toNat + 1 else 0

/-- The first that has anybody, of k rows from the i-th behind on. -/
def Mx.seek (m : Mx) (s : Nat) : Nat → Nat → Option Nat
  | _, 0 => none
  | i, k + 1 => if m.row ((s + i) % m.r) = [] then m.seek s (i + 1) k else some ((s + i) % m.r)

def Mx.next (m : Mx) (row : Int) : Option Nat := m.seek (m.from row) 0 m.r

theorem next_nil (w : World) (row : Int) :
    Calls Try.prog 33 #[.pointer none, .int .i64 row] w fun e w' => e = .returned (.tuple #[.int .i64 0, .bool false]) ∧ w = w' := by
  go_enter Try.func33, Try.ntmps33
  go_wp2
  go_ret2
  exact ⟨rfl, rfl⟩

/-- What Next tells. -/
def nextVal : Option Nat → Value
  | none => .tuple #[.int .i64 0, .bool false]
  | some r => .tuple #[.int .i64 (r : Nat), .bool true]

theorem Mx.seek_succ (m : Mx) (s i k : Nat) : m.seek s i (k + 1) = if m.row ((s + i) % m.r) = [] then m.seek s (i + 1) k else some ((s + i) % m.r) := rfl

set_option maxHeartbeats 2000000 in
theorem next_in (w : World) (b : Nat) (m : Mx) (row : Nat) (hrow : row < m.r) (h : MxAt w b m) :
    Calls Try.prog 33 #[.pointer (some ⟨b, 0, none⟩), .int .i64 row] w fun e w' => e = .returned (nextVal (m.seek (row + 1) 0 m.r)) ∧ Below w.heap.size w w' := by
  have hr8 := h.r8
  have hr1 := h.r1
  have hcr := h.cr
  have hri : (m.r : Int) ≤ 8 := by omega
  have hr0 : 0 < (m.r : Int) := by omega
  have hrne : ((m.r : Int) == 0) = false := by simp; omega
  have HH := hid h
  have HB := hid h.lt
  have hrw : (row : Int) < 8 := by omega
  clear h
  go_enter Try.func33, Try.ntmps33
  go_wp2_with fail
  refine (hasrow_yes w b m row HH.out hrow).mono ?_
  rintro e w' ⟨rfl, rfl⟩
  go_wp2_with fail
  go_loopw [18] (fun i wr => ∃ k : Nat, k ≤ m.r ∧ i = .int .i64 k ∧ m.seek (row + 1) k (m.r - k) = m.seek (row + 1) 0 m.r ∧ Below w.heap.size w wr) (fun i _ => m.r - (intOf i).toNat)
  case atStart => exact ⟨0, Nat.zero_le _, rfl, by rw [Nat.sub_zero], Below.refl _ _⟩
  case round =>
    obtain ⟨k, hk, rfl, hs, hB⟩ := hrel
    have HS := hid hs
    have HK := hid hB
    have hsz := hB.size
    have hm2 := HH.out.below hB HB.out
    have hcr2 := hm2.cr
    have HM := hid hm2
    clear hs hB hm2 hcr
    by_cases hlt : k < m.r
    · have hki : (k : Int) < (m.r : Int) := by omega
      obtain ⟨q, hq⟩ : ∃ q, q = ((row + 1) + k) % m.r := ⟨_, rfl⟩
      have hqr : q < m.r := by rw [hq]; exact Nat.mod_lt _ (by omega)
      have HSU := hid (show m.seek (row + 1) k (m.r - k) = if m.row q = [] then m.seek (row + 1) (k + 1) (m.r - (k + 1)) else some q by
        rw [show m.r - k = (m.r - (k + 1)) + 1 by omega, Mx.seek_succ, ← hq])
      have he : ((row : Int) + 1 + (k : Int)) % (m.r : Int) = (q : Int) := by rw [hq]; push_cast; simp
      have he2 : ((row : Int) + 1 + (k : Int)).tmod (m.r : Int) = (q : Int) := by rw [Int.tmod_eq_emod_of_nonneg (by omega)]; exact he
      clear hq
      go_wp2_with fail
      refine (row_any wr b q m HM.out hqr).mono ?_
      rintro e w2 ⟨v, rfl, hv, hnil, hb2⟩
      have HB2 := hid hb2
      obtain ⟨ad, cp, rfl, hcl, hcm⟩ := (RdV.of_own hv).len
      rw [List.length_map] at hcl
      clear hv hnil hb2
      rw [List.length_map]
      cases hl : m.row q with
      | nil =>
        rw [hl] at hcl
        have HU := hid (show m.seek (row + 1) (k + 1) (m.r - (k + 1)) = m.seek (row + 1) 0 m.r by rw [← HS.out, HSU.out, hl, if_pos rfl])
        clear hl he he2
        go_wp2
        go_roundw
        case rel => exact ⟨k + 1, by omega, by go_num, HU.out, HK.out.trans (HB2.out.mono hsz)⟩
        case measure => simp [intOf]; omega
      | cons x l =>
        rw [hl] at hcl
        have HU := hid (show m.seek (row + 1) 0 m.r = some q by rw [← HS.out, HSU.out, hl, if_neg (by simp)])
        clear hl he he2
        go_wp2
        go_ret2
        exact ⟨by rw [HU.out]; rfl, HK.out.trans (HB2.out.mono hsz)⟩
    · have e : k = m.r := by omega
      have HU := hid (show m.seek (row + 1) 0 m.r = none by rw [← HS.out, e, Nat.sub_self]; rfl)
      have hki : ¬ (k : Int) < (m.r : Int) := by omega
      clear hlt e
      go_wp2
      go_ret2
      exact ⟨by rw [HU.out]; rfl, HK.out⟩

set_option maxHeartbeats 2000000 in
theorem next_out (w : World) (b : Nat) (m : Mx) (row : Int) (hrow : row < 0 ∨ (m.r : Int) ≤ row) (h : MxAt w b m) :
    Calls Try.prog 33 #[.pointer (some ⟨b, 0, none⟩), .int .i64 row] w fun e w' => e = .returned (nextVal (m.seek 0 0 m.r)) ∧ Below w.heap.size w w' := by
  have hr8 := h.r8
  have hr1 := h.r1
  have hcr := h.cr
  have hri : (m.r : Int) ≤ 8 := by omega
  have hr0 : 0 < (m.r : Int) := by omega
  have hrne : ((m.r : Int) == 0) = false := by simp; omega
  have HH := hid h
  have HB := hid h.lt
  have HR := hid hrow
  clear hrow
  clear h
  go_enter Try.func33, Try.ntmps33
  go_wp2_with fail
  refine (hasrow_no w b m row HH.out HR.out).mono ?_
  rintro e w' ⟨rfl, rfl⟩
  go_wp2_with fail
  go_loopw [18] (fun i wr => ∃ k : Nat, k ≤ m.r ∧ i = .int .i64 k ∧ m.seek 0 k (m.r - k) = m.seek 0 0 m.r ∧ Below w.heap.size w wr) (fun i _ => m.r - (intOf i).toNat)
  case atStart => exact ⟨0, Nat.zero_le _, rfl, by rw [Nat.sub_zero], Below.refl _ _⟩
  case round =>
    obtain ⟨k, hk, rfl, hs, hB⟩ := hrel
    have HS := hid hs
    have HK := hid hB
    have hsz := hB.size
    have hm2 := HH.out.below hB HB.out
    have hcr2 := hm2.cr
    have HM := hid hm2
    clear hs hB hm2 hcr
    by_cases hlt : k < m.r
    · have hki : (k : Int) < (m.r : Int) := by omega
      obtain ⟨q, hq⟩ : ∃ q, q = (0 + k) % m.r := ⟨_, rfl⟩
      have hqr : q < m.r := by rw [hq]; exact Nat.mod_lt _ (by omega)
      have HSU := hid (show m.seek 0 k (m.r - k) = if m.row q = [] then m.seek 0 (k + 1) (m.r - (k + 1)) else some q by
        rw [show m.r - k = (m.r - (k + 1)) + 1 by omega, Mx.seek_succ, ← hq])
      have he : ((k : Int)) % (m.r : Int) = (q : Int) := by rw [hq]; push_cast; simp
      have he2 : ((k : Int)).tmod (m.r : Int) = (q : Int) := by rw [Int.tmod_eq_emod_of_nonneg (by omega)]; exact he
      clear hq
      go_wp2_with fail
      refine (row_any wr b q m HM.out hqr).mono ?_
      rintro e w2 ⟨v, rfl, hv, hnil, hb2⟩
      have HB2 := hid hb2
      obtain ⟨ad, cp, rfl, hcl, hcm⟩ := (RdV.of_own hv).len
      rw [List.length_map] at hcl
      clear hv hnil hb2
      rw [List.length_map]
      cases hl : m.row q with
      | nil =>
        rw [hl] at hcl
        have HU := hid (show m.seek 0 (k + 1) (m.r - (k + 1)) = m.seek 0 0 m.r by rw [← HS.out, HSU.out, hl, if_pos rfl])
        clear hl he he2
        go_wp2
        go_roundw
        case rel => exact ⟨k + 1, by omega, by go_num, HU.out, HK.out.trans (HB2.out.mono hsz)⟩
        case measure => simp [intOf]; omega
      | cons x l =>
        rw [hl] at hcl
        have HU := hid (show m.seek 0 0 m.r = some q by rw [← HS.out, HSU.out, hl, if_neg (by simp)])
        clear hl he he2
        go_wp2
        go_ret2
        exact ⟨by rw [HU.out]; rfl, HK.out.trans (HB2.out.mono hsz)⟩
    · have e : k = m.r := by omega
      have HU := hid (show m.seek 0 0 m.r = none by rw [← HS.out, e, Nat.sub_self]; rfl)
      have hki : ¬ (k : Int) < (m.r : Int) := by omega
      clear hlt e
      go_wp2
      go_ret2
      exact ⟨by rw [HU.out]; rfl, HK.out⟩

theorem next_any (w : World) (b : Nat) (m : Mx) (row : Int) (h : MxAt w b m) :
    Calls Try.prog 33 #[.pointer (some ⟨b, 0, none⟩), .int .i64 row] w fun e w' => e = .returned (nextVal (m.next row)) ∧ Below w.heap.size w w' := by
  unfold Mx.next Mx.from
  by_cases hr : 0 ≤ row ∧ row < m.r
  · rw [if_pos hr]
    obtain ⟨k, rfl⟩ := Int.eq_ofNat_of_zero_le hr.1
    exact next_in w b m k (by omega) h
  · rw [if_neg hr]
    exact next_out w b m row (by omega) h

end Go.Proofs.Ytdongghjchnpbaa
