/-
  Contracts: goes, At, Up, New, Copy.
-/
import Derived.Test.YtdongghjchnpbaaRowO
namespace Go.Proofs.Ytdongghjchnpbaa
open Go.RowKit
set_option linter.unusedVariables false

theorem goes_any (w : World) (b off : Nat) (f : Nat → Nat) (v : Value) (l : List Nat) (hf : ∀ n, n < 16 → w.cell? ⟨b, off + n, none⟩ = some (.int .u32 (f n))) (hr : RdV w v (l.map iv)) (hl : ∀ n ∈ l, n < 16) :
    Calls Try.prog 42 #[.pointer (some ⟨b, off, none⟩), v] w fun e w' => e = .returned (.bool (l.all fun n => f n == 0)) ∧ w = w' := by
  obtain ⟨ad, cap, rfl, hcl, hcm⟩ := hr.len
  rw [List.length_map] at hcl
  have HR := hid hr
  have HF := hid hf
  have HL := hid hl
  clear hr hf hl
  have hlm : l.length ≤ 9223372036854775807 := by omega
  rw [List.length_map]
  go_enter Try.func42, Try.ntmps42
  go_wp2
  go_loop [9] (fun i => ∃ k : Nat, k ≤ l.length ∧ i = .int .i64 k ∧ (l.take k).all (fun n => f n == 0) = true) (fun i => l.length - (intOf i).toNat)
  case atStart => exact ⟨0, Nat.zero_le _, rfl, by simp⟩
  case round =>
    obtain ⟨k, hk, rfl, hw⟩ := hrel
    have HW := hid hw
    clear hw
    by_cases hlt : k < l.length
    · obtain ⟨n, hn⟩ : ∃ n, l[k]? = some n := ⟨_, List.getElem?_eq_getElem hlt⟩
      have h16 := HL.out n (List.mem_of_getElem? hn)
      rcases HR.out with ⟨_, he⟩ | ⟨g, o, cap', e, h1, h2, h3, h4⟩
      · simp at he; subst he; simp at hlt
      · rw [List.length_map] at e
        simp only [Value.slice.injEq] at e
        obtain ⟨rfl, -, rfl⟩ := e
        have hcell : w.cell? ⟨g, o + k, none⟩ = some (.int .i64 n) := h4 k (iv n) (by simp [hn])
        have hz := HF.out n h16
        have HT := hid (take_snoc' l k n hn)
        have HN := hid hn
        have hni : (n : Int) < 16 := by omega
        clear h4 h1 h2 h3 hn h16
        by_cases hf0 : f n = 0
        · rw [hf0] at hz
          have HF0 := hid hf0
          clear hf0
          go_wp2
          go_round
          case rel => exact ⟨k + 1, hlt, by go_num, by rw [HT.out, List.all_append, HW.out]; simp [HF0.out]⟩
          case measure => simp [intOf]; omega
        · obtain ⟨y, hy⟩ : ∃ y, f n = y + 1 := ⟨f n - 1, by omega⟩
          rw [hy] at hz
          have hy1 : ((((y : Nat) : Int) + 1) == 0) = false := by simp; omega
          have hy2 : ((((y : Nat) : Int) + 1) != 0) = true := by simp; omega
          have HF0 := hid hf0
          have HM := hid (show l.all (fun n => f n == 0) = false from by
            rw [Bool.eq_false_iff]
            intro hall
            rw [List.all_eq_true] at hall
            have := hall n (List.mem_of_getElem? HN.out)
            simp at this
            exact HF0.out this)
          clear hf0 hy
          go_wp2
          go_ret
          exact ⟨by rw [HM.out]; rfl, rfl⟩
    · have e : k = l.length := by omega
      have HE := hid (show l.take k = l by rw [e]; exact List.take_length)
      have e2 : (k : Int) = (l.length : Int) := by omega
      go_wp2
      go_ret
      exact ⟨by rw [← HW.out, HE.out]; rfl, rfl⟩

theorem at_yes (w : World) (b : Nat) (m : Mx) (i j : Nat) (h : MxAt w b m) (hi : i < m.r) (hj : j < m.n) :
    Calls Try.prog 46 #[.pointer (some ⟨b, 0, none⟩), .int .i64 i, .int .i64 j] w fun e w' => e = .returned (.int .u32 (m.c (16 * i + j) : Nat)) ∧ w = w' := by
  have h8 := h.r8
  have h16 := h.n16
  have hc := h.cc (i * 16 + j) (by omega)
  rw [show 2 + (i * 16 + j) = 2 + i * 16 + j by omega] at hc
  have HC := hid (show 16 * i + j = i * 16 + j by omega)
  have hii : (i : Int) < 8 := by omega
  have hji : (j : Int) < 16 := by omega
  have HH := hid h
  clear h
  go_enter Try.func46, Try.ntmps46
  go_wp2_with (first
    | (go_at_call 43; refine (hasnode_yes w b m j HH.out hj).mono ?_; rintro e w' ⟨rfl, rfl⟩)
    | (go_at_call 40; refine (hasrow_yes w b m i HH.out hi).mono ?_; rintro e w' ⟨rfl, rfl⟩)
    | fail)
  go_ret
  exact ⟨by rw [HC.out]; rfl, rfl⟩

theorem at_no (w : World) (b : Nat) (m : Mx) (i j : Int) (h : MxAt w b m) (hi : (i < 0 ∨ (m.r : Int) ≤ i) ∨ (0 ≤ i ∧ i < m.r) ∧ (j < 0 ∨ (m.n : Int) ≤ j)) :
    Calls Try.prog 46 #[.pointer (some ⟨b, 0, none⟩), .int .i64 i, .int .i64 j] w fun e w' => e = .returned (.int .u32 0) ∧ w = w' := by
  have HH := hid h
  clear h
  rcases hi with hi | ⟨⟨hi, hi2⟩, hj⟩
  · have HI := hid hi
    clear hi
    go_enter Try.func46, Try.ntmps46
    go_wp2_with (go_at_call 40; refine (hasrow_no w b m i HH.out HI.out).mono ?_; rintro e w' ⟨rfl, rfl⟩)
    go_ret
    exact ⟨rfl, rfl⟩
  · have HJ := hid hj
    obtain ⟨i, rfl⟩ := Int.eq_ofNat_of_zero_le hi
    have hii : i < m.r := by omega
    clear hj hi hi2
    go_enter Try.func46, Try.ntmps46
    go_wp2_with (first
      | (go_at_call 43; refine (hasnode_no w b m j HH.out HJ.out).mono ?_; rintro e w' ⟨rfl, rfl⟩)
      | (go_at_call 40; refine (hasrow_yes w b m i HH.out hii).mono ?_; rintro e w' ⟨rfl, rfl⟩)
      | fail)
    go_ret
    exact ⟨rfl, rfl⟩

theorem at_nil (w : World) (i j : Int) :
    Calls Try.prog 46 #[.pointer none, .int .i64 i, .int .i64 j] w fun e w' => e = .returned (.int .u32 0) ∧ w = w' := by
  go_enter Try.func46, Try.ntmps46
  go_wp2_with (go_at_call 40; refine (hasrow_nil w i).mono ?_; rintro e w' ⟨rfl, rfl⟩)
  go_ret
  exact ⟨rfl, rfl⟩

theorem up_yes (w : World) (b : Nat) (m : Mx) (k : Nat) (u : Bool) (h : MxAt w b m) (hk : k < m.n) :
    Calls Try.prog 21 #[.pointer (some ⟨b, 0, none⟩), .int .i64 k, .bool u] w fun e w' => e = .returned (.int .i64 0) ∧ MxAt w' b (m.turn k (!u)) ∧ Keeps (fun i => i = b) w w' := by
  have h16 := h.n16
  have hc := h.cd k (by omega)
  have hf := h.frozen (130 + k)
  have HT := hid (h.turn k (!u) (by omega))
  have hji : (k : Int) < 16 := by omega
  have HH := hid h
  clear h
  go_enter Try.func21, Try.ntmps21
  go_wp2_with (go_at_call 43; refine (hasnode_yes w b m k HH.out hk).mono ?_; rintro e w' ⟨rfl, rfl⟩)
  go_ret
  exact ⟨rfl, HT.out, (Keeps.refl (fun i => i = b) w).setCell (fun _ => rfl) _⟩

theorem up_no (w : World) (b : Nat) (m : Mx) (k : Int) (u : Bool) (h : MxAt w b m) (hk : k < 0 ∨ (m.n : Int) ≤ k) :
    Calls Try.prog 21 #[.pointer (some ⟨b, 0, none⟩), .int .i64 k, .bool u] w fun e w' => e = .returned (.int .i64 1) ∧ w = w' := by
  have HH := hid h
  have HK := hid hk
  clear h hk
  go_enter Try.func21, Try.ntmps21
  go_wp2_with (go_at_call 43; refine (hasnode_no w b m k HH.out HK.out).mono ?_; rintro e w' ⟨rfl, rfl⟩)
  go_ret
  exact ⟨rfl, rfl⟩

theorem up_nil (w : World) (k : Int) (u : Bool) :
    Calls Try.prog 21 #[.pointer none, .int .i64 k, .bool u] w fun e w' => e = .returned (.int .i64 6) ∧ w = w' := by
  go_enter Try.func21, Try.ntmps21
  go_wp2
  go_ret
  exact ⟨rfl, rfl⟩

end Go.Proofs.Ytdongghjchnpbaa
