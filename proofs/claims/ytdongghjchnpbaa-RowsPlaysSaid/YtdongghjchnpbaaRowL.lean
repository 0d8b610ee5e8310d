/-
  Contracts: Of, stands.
-/
import Derived.Test.YtdongghjchnpbaaRowK
import Derived.Test.YtdongghjchnpbaaKeepT
namespace Go.Proofs.Ytdongghjchnpbaa
open Go.RowKit Go.Shelf
set_option linter.unusedVariables false

/-- The nodes at which a job stands in a row. -/
def Mx.own (m : Mx) (row j : Nat) : List Nat := m.at fun k => m.c (16 * row + k) == j

/-- slices.Collect over held. -/
theorem collect_held (w : World) (b row j : Nat) (m : Mx) (lb : Array Value) (w1 : World) (hb : Below w.heap.size w w1) (h : Goes w.heap.size w.heap.size w1.heap.size (m.own row j) w1 lb) (hn : m.n ≤ 16) :
    Calls Try.prog 59 #[.func (.func 84) #[] lb] w1 fun e w' => ∃ v, e = .returned v ∧ w'.ownsRow w.heap.size 3 1 v (m.own row j).length ((m.own row j).map iv) ∧ (v = .slice none 0 0 ↔ m.own row j = []) ∧ Below w.heap.size w w' :=
  (collect_any w1 w1 lb w.heap.size w.heap.size w1.heap.size (m.own row j) (by have := m.at_len fun k => m.c (16 * row + k) == j; exact Nat.le_trans this hn) (Below.refl _ _) hb.size (Nat.le_refl _) h).mono fun e w' ⟨v, he, h1, h2, h3⟩ => ⟨v, he, owns_base h1 hb.size, h2, hb.trans (h3.mono hb.size)⟩

/-- The first of these rows in which the job stands. -/
def Mx.find (m : Mx) (j : Nat) : Nat → Nat → Option Nat
  | _, 0 => none
  | row, k + 1 => if m.own row j = [] then m.find j (row + 1) k else some row

def Mx.where (m : Mx) (j : Nat) : Option Nat := if j = 0 then none else m.find j 0 m.r

theorem Mx.find_some {m : Mx} {j : Nat} : ∀ (k row r : Nat), m.find j row k = some r → row ≤ r ∧ r < row + k ∧ m.own r j ≠ [] ∧ ∀ i, row ≤ i → i < r → m.own i j = []
  | 0, _, _, h => by cases h
  | k + 1, row, r, h => by
    unfold Mx.find at h
    by_cases he : m.own row j = []
    · rw [if_pos he] at h
      obtain ⟨h1, h2, h3, h4⟩ := Mx.find_some k (row + 1) r h
      refine ⟨by omega, by omega, h3, fun i hi hr => ?_⟩
      by_cases e : i = row
      · rw [e]; exact he
      · exact h4 i (by omega) hr
    · rw [if_neg he] at h
      cases h
      exact ⟨Nat.le_refl _, by omega, he, fun i hi hr => by omega⟩

theorem Mx.find_none {m : Mx} {j : Nat} : ∀ (k row : Nat), m.find j row k = none → ∀ i, row ≤ i → i < row + k → m.own i j = []
  | 0, _, _, i, h1, h2 => by omega
  | k + 1, row, h, i, h1, h2 => by
    unfold Mx.find at h
    by_cases he : m.own row j = []
    · rw [if_pos he] at h
      by_cases e : i = row
      · rw [e]; exact he
      · exact Mx.find_none k (row + 1) h i (by omega) (by omega)
    · rw [if_neg he] at h; cases h

theorem Mx.find_of {m : Mx} {j r : Nat} : ∀ (k row : Nat), row ≤ r → r < row + k → m.own r j ≠ [] → (∀ i, row ≤ i → i < r → m.own i j = []) → m.find j row k = some r
  | 0, _, h1, h2, _, _ => by omega
  | k + 1, row, h1, h2, h3, h4 => by
    unfold Mx.find
    by_cases e : row = r
    · subst e; rw [if_neg h3]
    · rw [if_pos (h4 row (Nat.le_refl _) (by omega))]
      exact Mx.find_of k (row + 1) (by omega) (by omega) h3 fun i hi hr => h4 i (by omega) hr

theorem Mx.find_of_none {m : Mx} {j : Nat} : ∀ (k row : Nat), (∀ i, row ≤ i → i < row + k → m.own i j = []) → m.find j row k = none
  | 0, _, _ => rfl
  | k + 1, row, h => by
    unfold Mx.find
    rw [if_pos (h row (Nat.le_refl _) (by omega))]
    exact Mx.find_of_none k (row + 1) fun i h1 h2 => h i (by omega) (by omega)

theorem Mx.where_some {m : Mx} {j r : Nat} (h : m.where j = some r) : j ≠ 0 ∧ r < m.r ∧ m.own r j ≠ [] ∧ ∀ i, i < r → m.own i j = [] := by
  unfold Mx.where at h
  split at h
  · cases h
  · rename_i hj
    obtain ⟨h1, h2, h3, h4⟩ := Mx.find_some _ _ _ h
    exact ⟨hj, by omega, h3, fun i hi => h4 i (by omega) hi⟩

theorem Mx.where_none {m : Mx} {j : Nat} (h : m.where j = none) (hj : j ≠ 0) : ∀ i, i < m.r → m.own i j = [] := by
  unfold Mx.where at h
  rw [if_neg hj] at h
  exact fun i hi => Mx.find_none _ _ h i (by omega) (by omega)

set_option maxHeartbeats 1000000 in
theorem of_some (w : World) (b : Nat) (m : Mx) (j row : Nat) (h : MxAt w b m) (hw : m.where j = some row) :
    Calls Try.prog 32 #[.pointer (some ⟨b, 0, none⟩), .int .u32 (j : Nat)] w fun e w' => ∃ v, e = .returned (.tuple #[.int .i64 row, v, .bool true]) ∧ w'.ownsRow w.heap.size 3 1 v (m.own row j).length ((m.own row j).map iv) ∧ (v = .slice none 0 0 ↔ m.own row j = []) ∧ Below w.heap.size w w' := by
  obtain ⟨hj, hr, hne, hbef⟩ := Mx.where_some hw
  have hc := h.cr
  have h8 := h.r8
  have HB := hid h.lt
  have HH := hid h
  have HNE := hid hne
  have HBE := hid hbef
  have hy1 : ((j : Int) == 0) = false := by simp; omega
  have hri : (m.r : Int) ≤ 8 := by omega
  clear h hw hne hbef hj
  go_enter Try.func32, Try.ntmps32
  go_wp2
  go_loopw [19] (fun i wr => ∃ k : Nat, k ≤ row ∧ i = .int .i64 k ∧ Below w.heap.size w wr) (fun i _ => m.r - (intOf i).toNat)
  case atStart => exact ⟨0, Nat.zero_le _, rfl, Below.refl _ _⟩
  case round =>
    obtain ⟨k, hk, rfl, hB⟩ := hrel
    have HK := hid hB
    have hsz := hB.size
    have hki : (k : Int) < (m.r : Int) := by omega
    have HM := hid (HH.out.below hB HB.out)
    clear hB
    go_wp2_with fail
    refine (held_seq wr wr.heap.size b k j m HM.out (by omega) HM.out.lt (Nat.le_refl _)).mono ?_
    rintro e w1 ⟨lb, rfl, hb1, hg⟩
    have HB1 := hid hb1
    have HG := hid hg
    have hs1 := hb1.size
    clear hb1 hg
    go_wp2_with fail
    refine (collect_held wr b k j m lb w1 HB1.out HG.out HM.out.n16).mono ?_
    rintro e w2 ⟨v, rfl, hv, hnil, hb2⟩
    have HV := hid hv
    have HNIL := hid hnil
    have HB2 := hid hb2
    have hs2 := hb2.size
    obtain ⟨ad, cp, rfl, hcl, hcm⟩ := (RdV.of_own hv).len
    rw [List.length_map] at hcl
    clear hb2 hv hnil
    rw [List.length_map]
    rw [List.length_map] at HV HNIL
    by_cases hkr : k = row
    · subst hkr
      have hpos : 0 < (m.own k j).length := List.length_pos_iff.2 HNE.out
      have hposi : (0 : Int) < ((m.own k j).length : Int) := by omega
      have HL := hid hpos
      clear hpos
      go_wp2
      go_ret3
      exact ⟨_, rfl, owns_base HV.out hsz, HNIL.out, HK.out.trans (HB2.out.mono hsz)⟩
    · have h0 : (m.own k j).length = 0 := by rw [HBE.out k (by omega)]; rfl
      rw [h0]
      clear h0
      go_wp2
      go_roundw
      case rel => exact ⟨k + 1, by omega, by go_num, HK.out.trans (HB2.out.mono hsz)⟩
      case measure => simp [intOf]; omega

theorem of_zero (w : World) (b : Nat) :
    Calls Try.prog 32 #[.pointer (some ⟨b, 0, none⟩), .int .u32 0] w fun e w' => e = .returned (.tuple #[.int .i64 0, .slice none 0 0, .bool false]) ∧ w = w' := by
  go_enter Try.func32, Try.ntmps32
  go_wp2
  go_ret3
  exact ⟨rfl, rfl⟩

theorem of_nil (w : World) (j : Nat) :
    Calls Try.prog 32 #[.pointer none, .int .u32 (j : Nat)] w fun e w' => e = .returned (.tuple #[.int .i64 0, .slice none 0 0, .bool false]) ∧ w = w' := by
  go_enter Try.func32, Try.ntmps32
  go_wp2
  go_ret3
  exact ⟨rfl, rfl⟩

set_option maxHeartbeats 1000000 in
theorem of_none (w : World) (b : Nat) (m : Mx) (j : Nat) (h : MxAt w b m) (hw : m.where j = none) :
    Calls Try.prog 32 #[.pointer (some ⟨b, 0, none⟩), .int .u32 (j : Nat)] w fun e w' => e = .returned (.tuple #[.int .i64 0, .slice none 0 0, .bool false]) ∧ Below w.heap.size w w' := by
  by_cases hj : j = 0
  · subst hj
    exact (of_zero w b).mono fun e w' ⟨he, hw⟩ => ⟨he, hw ▸ Below.refl _ _⟩
  have hc := h.cr
  have h8 := h.r8
  have HB := hid h.lt
  have HH := hid h
  have HBE := hid (Mx.where_none hw hj)
  have hy1 : ((j : Int) == 0) = false := by simp; omega
  have hri : (m.r : Int) ≤ 8 := by omega
  clear h hw hj
  go_enter Try.func32, Try.ntmps32
  go_wp2
  go_loopw [19] (fun i wr => ∃ k : Nat, k ≤ m.r ∧ i = .int .i64 k ∧ Below w.heap.size w wr) (fun i _ => m.r - (intOf i).toNat)
  case atStart => exact ⟨0, Nat.zero_le _, rfl, Below.refl _ _⟩
  case round =>
    obtain ⟨k, hk, rfl, hB⟩ := hrel
    have HK := hid hB
    have hsz := hB.size
    have HM := hid (HH.out.below hB HB.out)
    clear hB
    by_cases hlt : k < m.r
    · have hki : (k : Int) < (m.r : Int) := by omega
      go_wp2_with fail
      refine (held_seq wr wr.heap.size b k j m HM.out (by omega) HM.out.lt (Nat.le_refl _)).mono ?_
      rintro e w1 ⟨lb, rfl, hb1, hg⟩
      have HB1 := hid hb1
      have HG := hid hg
      have hs1 := hb1.size
      clear hb1 hg
      go_wp2_with fail
      refine (collect_held wr b k j m lb w1 HB1.out HG.out HM.out.n16).mono ?_
      rintro e w2 ⟨v, rfl, hv, hnil, hb2⟩
      have HB2 := hid hb2
      have hs2 := hb2.size
      obtain ⟨ad, cp, rfl, hcl, hcm⟩ := (RdV.of_own hv).len
      rw [List.length_map] at hcl
      clear hb2 hv hnil
      rw [List.length_map]
      have h0 : (m.own k j).length = 0 := by rw [HBE.out k hlt]; rfl
      rw [h0]
      clear h0
      go_wp2
      go_roundw
      case rel => exact ⟨k + 1, by omega, by go_num, HK.out.trans (HB2.out.mono hsz)⟩
      case measure => simp [intOf]; omega
    · have hki : ¬ (k : Int) < (m.r : Int) := by omega
      clear hlt
      go_wp2
      go_ret3
      exact ⟨rfl, HK.out⟩

theorem stands_any (w : World) (b : Nat) (m : Mx) (j : Nat) (h : MxAt w b m) :
    Calls Try.prog 35 #[.pointer (some ⟨b, 0, none⟩), .int .u32 (j : Nat)] w fun e w' => e = .returned (.bool (m.where j).isSome) ∧ Below w.heap.size w w' := by
  have HH := hid h
  clear h
  cases hw : m.where j with
  | none =>
    have HW := hid hw
    clear hw
    go_enter Try.func35, Try.ntmps35
    go_wp2_with fail
    refine (of_none w b m j HH.out HW.out).mono ?_
    rintro e w' ⟨rfl, hb⟩
    have HB := hid hb
    clear hb
    go_wp2
    go_ret
    exact ⟨rfl, HB.out⟩
  | some row =>
    have HW := hid hw
    clear hw
    go_enter Try.func35, Try.ntmps35
    go_wp2_with fail
    refine (of_some w b m j row HH.out HW.out).mono ?_
    rintro e w' ⟨v, rfl, hv, hn, hb⟩
    have HB := hid hb
    clear hb hv hn
    go_wp2
    go_ret
    exact ⟨rfl, HB.out⟩

end Go.Proofs.Ytdongghjchnpbaa
