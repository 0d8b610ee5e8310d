/-
  Contracts: Place where it is refused; Remove; New; Copy.
-/
import Derived.Test.YtdongghjchnpbaaRowQ
import Derived.Laws.Rows
namespace Go.Proofs.Ytdongghjchnpbaa
open Go.RowKit Go.Shelf
set_option linter.unusedVariables false

theorem place_nil (w : World) (j : Nat) (k : Int) :
    Calls Try.prog 14 #[.pointer none, .int .u32 (j : Nat), .int .i64 k] w fun e w' => e = .returned (.tuple #[.int .i64 0, .slice none 0 0, .int .i64 6]) ∧ w = w' := by
  go_enter Try.func14, Try.ntmps14
  go_wp2
  go_ret3
  exact ⟨rfl, rfl⟩

theorem place_arg (w : World) (b j : Nat) (k : Int) (h : j = 0 ∨ k < 1) :
    Calls Try.prog 14 #[.pointer (some ⟨b, 0, none⟩), .int .u32 (j : Nat), .int .i64 k] w fun e w' => e = .returned (.tuple #[.int .i64 0, .slice none 0 0, .int .i64 1]) ∧ w = w' := by
  by_cases hj : j = 0
  · subst hj
    clear h
    go_enter Try.func14, Try.ntmps14
    go_wp2
    go_ret3
    exact ⟨rfl, rfl⟩
  · have hk : k < 1 := by omega
    have hy1 : ((j : Int) == 0) = false := by simp; omega
    have d2 : decide (k < 1) = true := by simpa using hk
    clear h hj
    go_enter Try.func14, Try.ntmps14
    go_wp2
    go_ret3
    exact ⟨rfl, rfl⟩

theorem place_twice (w : World) (b j row : Nat) (k : Int) (m : Mx) (h : MxAt w b m) (hj : j ≠ 0) (hk : 1 ≤ k) (hs : m.where j = some row) :
    Calls Try.prog 14 #[.pointer (some ⟨b, 0, none⟩), .int .u32 (j : Nat), .int .i64 k] w fun e w' => e = .returned (.tuple #[.int .i64 0, .slice none 0 0, .int .i64 7]) ∧ Below w.heap.size w w' := by
  have hy1 : ((j : Int) == 0) = false := by simp; omega
  have d2 : decide (k < 1) = false := by simp; omega
  have HH := hid h
  have HS := hid hs
  clear h hs hj
  go_enter Try.func14, Try.ntmps14
  go_wp2_with fail
  refine (stands_any w b m j HH.out).mono ?_
  rintro e w1 ⟨rfl, hb1⟩
  rw [HS.out, Option.isSome_some]
  have HB1 := hid hb1
  clear hb1
  go_wp2
  go_ret3
  exact ⟨rfl, HB1.out⟩

theorem place_wide (w : World) (b j : Nat) (k : Int) (m : Mx) (h : MxAt w b m) (hj : j ≠ 0) (hk : 1 ≤ k) (hs : m.where j = none) (hkn : (m.n : Int) < k) :
    Calls Try.prog 14 #[.pointer (some ⟨b, 0, none⟩), .int .u32 (j : Nat), .int .i64 k] w fun e w' => e = .returned (.tuple #[.int .i64 0, .slice none 0 0, .int .i64 9]) ∧ Below w.heap.size w w' := by
  have hy1 : ((j : Int) == 0) = false := by simp; omega
  have d1 : decide ((m.n : Int) < k) = true := by simpa using hkn
  have d2 : decide (k < 1) = false := by simp; omega
  have HB := hid h.lt
  have HH := hid h
  have HS := hid hs
  clear h hs hj
  go_enter Try.func14, Try.ntmps14
  go_wp2_with fail
  refine (stands_any w b m j HH.out).mono ?_
  rintro e w1 ⟨rfl, hb1⟩
  rw [HS.out, Option.isSome_none]
  have hcn1 := (HH.out.below hb1 HB.out).cn
  have HB1 := hid hb1
  clear hb1
  go_wp2
  go_ret3
  exact ⟨rfl, HB1.out⟩

set_option maxHeartbeats 2000000 in
theorem place_full (w : World) (b j k : Nat) (m : Mx) (h : MxAt w b m) (hj : j ≠ 0) (hk : 1 ≤ k) (hs : m.where j = none) (hkn : k ≤ m.n) (hr : m.room k 0 m.r = none) :
    Calls Try.prog 14 #[.pointer (some ⟨b, 0, none⟩), .int .u32 (j : Nat), .int .i64 k] w fun e w' => e = .returned (.tuple #[.int .i64 0, .slice none 0 0, .int .i64 8]) ∧ Below w.heap.size w w' := by
  have hbef := Mx.room_none _ _ hr
  have hr8 := h.r8
  have hn16 := h.n16
  have hcr := h.cr
  have hcn := h.cn
  have hy1 : ((j : Int) == 0) = false := by simp; omega
  have hki : (k : Int) ≤ 16 := by omega
  have hki1 : (1 : Int) ≤ (k : Int) := by omega
  have hkni : (k : Int) ≤ (m.n : Int) := by omega
  have hri : (m.r : Int) ≤ 8 := by omega
  have d1 : decide (m.n < k) = false := by simp; omega
  have d2 : decide ((k : Int) < 1) = false := by simp; omega
  have HB := hid h.lt
  have HH := hid h
  have HS := hid hs
  have HBE := hid hbef
  clear h hr hs hbef hj
  go_enter Try.func14, Try.ntmps14
  go_wp2_with fail
  refine (stands_any w b m j HH.out).mono ?_
  rintro e w1 ⟨rfl, hb1⟩
  rw [HS.out, Option.isSome_none]
  have hcn1 := (HH.out.below hb1 HB.out).cn
  have hcr1 := (HH.out.below hb1 HB.out).cr
  have hs1 := hb1.size
  have HB1 := hid hb1
  clear hb1
  go_wp2_with fail
  go_loopw [36] (fun i wr => ∃ c : Nat, c ≤ m.r ∧ i = .int .i64 c ∧ Below w.heap.size w wr) (fun i _ => m.r - (intOf i).toNat)
  case atStart => exact ⟨0, Nat.zero_le _, rfl, HB1.out⟩
  case round =>
    obtain ⟨c, hc, rfl, hB⟩ := hrel
    have HK := hid hB
    have hsz := hB.size
    have HM := hid (HH.out.below hB HB.out)
    clear hB hcn1 hcr1 hcr hcn
    by_cases hlt : c < m.r
    · have hci : (c : Int) < (m.r : Int) := by omega
      have hc8 : (c : Int) < 8 := by omega
      go_wp2_with fail
      refine (least_any wr b c k m HM.out (by omega) (by omega) (by omega)).mono ?_
      rintro e w2 ⟨v, rfl, hv, hnil, hb2⟩
      have hs2 := hb2.size
      have HB2 := hid hb2
      have hlen : ((m.free c).take k).length < k := by rw [List.length_take]; have := HBE.out c (by omega) (by omega); omega
      obtain ⟨ad, cp, rfl, hcl, hcm⟩ := (RdV.of_own hv).len
      rw [List.length_map] at hcl
      clear hv hnil hb2
      rw [List.length_map]
      have e1 := len_eq_no hlen
      have HL := hid hlen
      clear hlen
      generalize ((m.free c).take k).length = q at *
      go_wp2_with fail
      go_roundw
      case rel => exact ⟨c + 1, by omega, by go_num, HK.out.trans (HB2.out.mono hsz)⟩
      case measure => simp [intOf]; omega
    · have hki : ¬ (c : Int) < (m.r : Int) := by omega
      clear hlt
      go_wp2
      go_ret3
      exact ⟨rfl, HK.out⟩

theorem remove_no (w : World) (b j : Nat) (m : Mx) (h : MxAt w b m) (hs : m.where j = none) :
    Calls Try.prog 19 #[.pointer (some ⟨b, 0, none⟩), .int .u32 (j : Nat)] w fun e w' => e = .returned (.int .i64 6) ∧ Below w.heap.size w w' := by
  have HH := hid h
  have HS := hid hs
  clear h hs
  go_enter Try.func19, Try.ntmps19
  go_wp2_with fail
  refine (of_none w b m j HH.out HS.out).mono ?_
  rintro e w1 ⟨rfl, hb1⟩
  have HB1 := hid hb1
  clear hb1
  go_wp2
  go_ret
  exact ⟨rfl, HB1.out⟩

theorem remove_nil (w : World) (j : Nat) :
    Calls Try.prog 19 #[.pointer none, .int .u32 (j : Nat)] w fun e w' => e = .returned (.int .i64 6) ∧ w = w' := by
  go_enter Try.func19, Try.ntmps19
  go_wp2_with fail
  refine (of_nil w j).mono ?_
  rintro e w1 ⟨rfl, rfl⟩
  go_wp2
  go_ret
  exact ⟨rfl, rfl⟩

theorem remove_yes (w : World) (b j row : Nat) (m : Mx) (h : MxAt w b m) (hs : m.where j = some row) :
    Calls Try.prog 19 #[.pointer (some ⟨b, 0, none⟩), .int .u32 (j : Nat)] w fun e w' => e = .returned (.int .i64 0) ∧ MxAt w' b (m.stand row (m.own row j) 0) ∧ Keeps (fun i => i = b) w w' := by
  have hr8 := h.r8
  have hn16 := h.n16
  have hrow := (Mx.where_some hs).2.1
  have hri : (row : Int) < 8 := by omega
  have HB := hid h.lt
  have HH := hid h
  have HS := hid hs
  clear h hs
  go_enter Try.func19, Try.ntmps19
  go_wp2_with fail
  refine (of_some w b m j row HH.out HS.out).mono ?_
  rintro e w1 ⟨v, rfl, hv, hn, hb1⟩
  have HB1 := hid hb1
  have HV := hid hv
  clear hb1 hv hn
  go_wp2_with fail
  refine (set_any w1 b (2 + row * 16) m.cells _ _ (m.own row j) 0 (HH.out.below HB1.out HB.out).blk (by rw [Mx.cells_length]; omega) (RdV.of_own HV.out) (Off.of_own HV.out HB.out) (own_lt hn16)).mono ?_
  rintro e w3 ⟨⟨u, rfl⟩, hw3⟩
  have HW3 := hid hw3
  clear hw3
  go_wp2
  go_ret
  have hm3 := (HH.out.below HB1.out HB.out).stand row 0 (by omega) (by omega) (m.own row j) (own_lt hn16)
  rw [← HW3.out] at hm3
  have hk3 := setAll_keeps w1 b (2 + row * 16) (m.own row j) 0
  rw [← HW3.out] at hk3
  exact ⟨rfl, hm3, (Keeps.of_below HB1.out (fun i hi hge => absurd hi (by omega))).trans hk3⟩

end Go.Proofs.Ytdongghjchnpbaa
