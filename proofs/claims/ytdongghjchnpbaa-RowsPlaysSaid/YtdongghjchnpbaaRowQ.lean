/-
  Contracts: Place, Remove, Put.
-/
import Derived.Test.YtdongghjchnpbaaRowS
namespace Go.Proofs.Ytdongghjchnpbaa
open Go.RowKit Go.Shelf
set_option linter.unusedVariables false

/-- A job stands at these nodes of a row. -/
def Mx.stand (m : Mx) (row : Nat) (l : List Nat) (j : Nat) : Mx := l.foldl (fun m n => m.put (16 * row + n) j) m

theorem MxAt.stand {w : World} {b : Nat} {m : Mx} (h : MxAt w b m) (row j : Nat) (hrow : row < 8) (hj : j < 4294967296) : ∀ (l : List Nat), (∀ n ∈ l, n < 16) → MxAt (setAll w b (2 + row * 16) l j) b (m.stand row l j) := by
  intro l
  induction l generalizing w m with
  | nil => exact fun _ => h
  | cons n l ih =>
    intro hl
    have hn := hl n (by simp)
    have h1 := h.put (16 * row + n) j (by omega) hj
    rw [show 2 + (16 * row + n) = 2 + row * 16 + n by omega] at h1
    exact ih h1 fun x hx => hl x (by simp [hx])

theorem Mx.stand_r (m : Mx) (row : Nat) (l : List Nat) (j : Nat) : (m.stand row l j).r = m.r := by
  unfold Mx.stand
  induction l generalizing m with
  | nil => rfl
  | cons n l ih => rw [List.foldl_cons, ih]; rfl
theorem Mx.stand_n (m : Mx) (row : Nat) (l : List Nat) (j : Nat) : (m.stand row l j).n = m.n := by
  unfold Mx.stand
  induction l generalizing m with
  | nil => rfl
  | cons n l ih => rw [List.foldl_cons, ih]; rfl
theorem Mx.stand_d (m : Mx) (row : Nat) (l : List Nat) (j : Nat) : (m.stand row l j).d = m.d := by
  unfold Mx.stand
  induction l generalizing m with
  | nil => rfl
  | cons n l ih => rw [List.foldl_cons, ih]; rfl
theorem Mx.stand_c (m : Mx) (row : Nat) (l : List Nat) (j k : Nat) : (m.stand row l j).c k = if (∃ n ∈ l, k = 16 * row + n) then j else m.c k := by
  unfold Mx.stand
  induction l generalizing m with
  | nil => simp
  | cons n l ih =>
    rw [List.foldl_cons, ih]
    by_cases h : ∃ x ∈ l, k = 16 * row + x
    · rw [if_pos h, if_pos (by obtain ⟨x, hx, e⟩ := h; exact ⟨x, by simp [hx], e⟩)]
    · rw [if_neg h]
      by_cases e : k = 16 * row + n
      · rw [if_pos ⟨n, by simp, e⟩]; simp [Mx.put, e]
      · rw [if_neg (by rintro ⟨x, hx, e'⟩; rcases List.mem_cons.1 hx with rfl | hx; exact e e'; exact h ⟨x, hx, e'⟩)]
        simp [Mx.put, e]

/-- Of a cell of the matrix itself. -/
theorem Mx.stand_cell (m : Mx) (row : Nat) (l : List Nat) (j i k : Nat) (hl : ∀ n ∈ l, n < 16) (hk : k < 16) : (m.stand row l j).c (16 * i + k) = if i = row ∧ k ∈ l then j else m.c (16 * i + k) := by
  rw [Mx.stand_c]
  by_cases h : i = row ∧ k ∈ l
  · rw [if_pos h, if_pos ⟨k, h.2, by rw [h.1]⟩]
  · rw [if_neg h, if_neg]
    rintro ⟨n, hn, e⟩
    have := hl n hn
    exact h ⟨by omega, by rw [show k = n by omega]; exact hn⟩

/-- The first of these rows that has so many free nodes that are up. -/
def Mx.room (m : Mx) (k : Nat) : Nat → Nat → Option Nat
  | _, 0 => none
  | row, c + 1 => if k ≤ (m.free row).length then some row else m.room k (row + 1) c

theorem Mx.room_some {m : Mx} {k : Nat} : ∀ (c row r : Nat), m.room k row c = some r → row ≤ r ∧ r < row + c ∧ k ≤ (m.free r).length ∧ ∀ i, row ≤ i → i < r → (m.free i).length < k
  | 0, _, _, h => by cases h
  | c + 1, row, r, h => by
    unfold Mx.room at h
    by_cases he : k ≤ (m.free row).length
    · rw [if_pos he] at h
      cases h
      exact ⟨Nat.le_refl _, by omega, he, fun i hi hr => by omega⟩
    · rw [if_neg he] at h
      obtain ⟨h1, h2, h3, h4⟩ := Mx.room_some c (row + 1) r h
      refine ⟨by omega, by omega, h3, fun i hi hr => ?_⟩
      by_cases e : i = row
      · rw [e]; omega
      · exact h4 i (by omega) hr

theorem Mx.room_none {m : Mx} {k : Nat} : ∀ (c row : Nat), m.room k row c = none → ∀ i, row ≤ i → i < row + c → (m.free i).length < k
  | 0, _, _, i, h1, h2 => by omega
  | c + 1, row, h, i, h1, h2 => by
    unfold Mx.room at h
    by_cases he : k ≤ (m.free row).length
    · rw [if_pos he] at h; cases h
    · rw [if_neg he] at h
      by_cases e : i = row
      · rw [e]; omega
      · exact Mx.room_none c (row + 1) h i (by omega) (by omega)

theorem free_lt {m : Mx} {row k : Nat} (hn : m.n ≤ 16) : ∀ n ∈ (m.free row).take k, n < 16 := fun n hx => by
  have := (Mx.at_mem.1 (List.mem_of_mem_take hx)).1
  omega
theorem own_lt {m : Mx} {row k : Nat} (hn : m.n ≤ 16) : ∀ n ∈ m.own row k, n < 16 := fun n hx => by
  have := (Mx.at_mem.1 hx).1
  omega

/-- What becomes of a matrix, and who is told what. -/
def Mx.placed (m : Mx) (j k : Nat) : Option (Nat × List Nat) := if m.n < k then none else (m.room k 0 m.r).map fun r => (r, (m.free r).take k)

set_option maxHeartbeats 2000000 in
/-- Room: where the job stands then. -/
theorem place_yes (w : World) (b j k row : Nat) (m : Mx) (h : MxAt w b m) (hj : j ≠ 0) (hj2 : j < 4294967296) (hk : 1 ≤ k) (hs : m.where j = none) (hkn : k ≤ m.n) (hr : m.room k 0 m.r = some row) :
    Calls Try.prog 14 #[.pointer (some ⟨b, 0, none⟩), .int .u32 (j : Nat), .int .i64 k] w fun e w' => ∃ v, e = .returned (.tuple #[.int .i64 row, v, .int .i64 0]) ∧ w'.ownsRow w.heap.size 3 1 v k (((m.free row).take k).map iv) ∧ MxAt w' b (m.stand row ((m.free row).take k) j) ∧ Keeps (fun i => i = b) w w' := by
  obtain ⟨-, hr2, hrk, hbef⟩ := Mx.room_some _ _ _ hr
  have hr8 := h.r8
  have hn16 := h.n16
  have hcr := h.cr
  have hcn := h.cn
  have hy1 : ((j : Int) == 0) = false := by simp; omega
  have hki : (k : Int) ≤ 16 := by omega
  have hki1 : (1 : Int) ≤ (k : Int) := by omega
  have hkni : (k : Int) ≤ (m.n : Int) := by omega
  have hri : (m.r : Int) ≤ 8 := by omega
  have d1 : decide (m.n < k) = false := by simp; omega
  have d2 : decide ((k : Int) < 1) = false := by simp; omega
  have HB := hid h.lt
  have HH := hid h
  have HS := hid hs
  have HBE := hid hbef
  have HRK := hid hrk
  have HJ := hid hj2
  clear h hr hs hbef hj hrk hj2
  go_enter Try.func14, Try.ntmps14
  go_wp2_with fail
  refine (stands_any w b m j HH.out).mono ?_
  rintro e w1 ⟨rfl, hb1⟩
  rw [HS.out, Option.isSome_none]
  have hcn1 := (HH.out.below hb1 HB.out).cn
  have hcr1 := (HH.out.below hb1 HB.out).cr
  have hs1 := hb1.size
  have HB1 := hid hb1
  clear hb1
  go_wp2_with fail
  go_loopw [36] (fun i wr => ∃ c : Nat, c ≤ row ∧ i = .int .i64 c ∧ Below w.heap.size w wr) (fun i _ => m.r - (intOf i).toNat)
  case atStart => exact ⟨0, Nat.zero_le _, rfl, HB1.out⟩
  case round =>
    obtain ⟨c, hc, rfl, hB⟩ := hrel
    have HK := hid hB
    have hsz := hB.size
    have hci : (c : Int) < (m.r : Int) := by omega
    have hc8 : (c : Int) < 8 := by omega
    have HM := hid (HH.out.below hB HB.out)
    clear hB hcn1 hcr1 hcr hcn
    go_wp2_with fail
    refine (least_any wr b c k m HM.out (by omega) (by omega) (by omega)).mono ?_
    rintro e w2 ⟨v, rfl, hv, hnil, hb2⟩
    have hs2 := hb2.size
    have HB2 := hid hb2
    by_cases hcr2 : c = row
    · subst hcr2
      have hlen : ((m.free c).take k).length = k := by rw [List.length_take]; have := HRK.out; omega
      rw [hlen] at hv
      obtain ⟨ad, cp, rfl, hcl, hcm⟩ := (RdV.of_own hv).len
      rw [List.length_map, hlen] at hcl hv
      have HV := hid hv
      have HL := hid hlen
      clear hv hnil hb2 hlen
      rw [List.length_map, HL.out]
      have e1 := len_eq_yes (show k = k from rfl)
      go_wp2_with fail
      refine (set_any w2 b (2 + c * 16) m.cells _ _ ((m.free c).take k) j (HM.out.below HB2.out (by have := HB.out; omega)).blk (by rw [Mx.cells_length]; omega) (RdV.of_own HV.out) (Off.of_own HV.out (by have := HB.out; omega)) (free_lt hn16)).mono ?_
      rintro e w3 ⟨⟨u, rfl⟩, hw3⟩
      have HW3 := hid hw3
      clear hw3
      go_wp2
      go_ret3
      have hm3 := (HM.out.below HB2.out (by have := HB.out; omega)).stand c j (by omega) HJ.out ((m.free c).take k) (free_lt hn16)
      rw [← HW3.out] at hm3
      have hk3 := setAll_keeps w2 b (2 + c * 16) ((m.free c).take k) j
      rw [← HW3.out] at hk3
      refine ⟨_, rfl, owns_base (owns_by HV.out fun g hg => ?_) hsz, hm3, ?_⟩
      · have := World.ownsRow.lt HV.out g hg
        exact hk3.block g this.2 (by have := HB.out; omega)
      · exact (Keeps.of_below (HK.out.trans (HB2.out.mono hsz)) (fun i hi hge => absurd hi (by omega))).trans hk3
    · have hlen : ((m.free c).take k).length < k := by rw [List.length_take]; have := HBE.out c (by omega) (by omega); omega
      obtain ⟨ad, cp, rfl, hcl, hcm⟩ := (RdV.of_own hv).len
      rw [List.length_map] at hcl
      clear hv hnil hb2
      rw [List.length_map]
      have e1 := len_eq_no hlen
      have HL := hid hlen
      clear hlen
      generalize ((m.free c).take k).length = q at *
      go_wp2_with fail
      go_roundw
      case rel => exact ⟨c + 1, by omega, by go_num, HK.out.trans (HB2.out.mono hsz)⟩
      case measure => simp [intOf]; omega

end Go.Proofs.Ytdongghjchnpbaa
