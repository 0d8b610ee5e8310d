/-
  Layer 6: a map of places: what is refused.
-/
import Derived.Test.YtbagpckiegpalaaBmA
namespace Go.Proofs.Ytbagpckiegpalaa
open Go.RowKit
set_option linter.unusedVariables false
set_option linter.unusedSimpArgs false

theorem mark_nil (w : World) (i : Int) : Calls Try.prog 33 #[.pointer none, .int .i64 i] w fun e w' => e = .returned (.bool false) ∧ w = w' := by
  go_enter Try.func33, Try.ntmps33
  go_wp2_with fail
  go_ret
  exact ⟨rfl, rfl⟩

theorem free_nil (w : World) (i : Int) : Calls Try.prog 34 #[.pointer none, .int .i64 i] w fun e w' => e = .returned (.bool false) ∧ w = w' := by
  go_enter Try.func34, Try.ntmps34
  go_wp2_with fail
  go_ret
  exact ⟨rfl, rfl⟩

theorem take_nil (w : World) (i : Int) : Calls Try.prog 35 #[.pointer none, .int .i64 i] w fun e w' => e = .returned (.tuple #[.slice none 0 0, .bool false]) ∧ w = w' := by
  go_enter Try.func35, Try.ntmps35
  go_wp2_with fail
  go_ret2
  exact ⟨rfl, rfl⟩

theorem take_neg (w : World) (lo b g : Nat) (size left : Int) (C : Nat) (F : List (Int × Int)) (sp : List Value) (h : MG w lo b g size left F C sp) (i : Int) (hi : i < 0) :
    Calls Try.prog 35 #[.pointer (some ⟨b, 0, none⟩), .int .i64 i] w fun e w' => e = .returned (.tuple #[.slice none 0 0, .bool false]) ∧ w = w' := by
  obtain ⟨⟨c0, c1, c2⟩, f0, f1, f2⟩ := h.cells
  go_enter Try.func35, Try.ntmps35
  go_wp2_with fail
  go_ret2
  exact ⟨rfl, rfl⟩

theorem take_many (w : World) (lo b g : Nat) (size left : Int) (C : Nat) (F : List (Int × Int)) (sp : List Value) (h : MG w lo b g size left F C sp) (i : Int) (hi : 0 ≤ i) (hl : left < i) (hl1 : left ≤ 1000000) :
    Calls Try.prog 35 #[.pointer (some ⟨b, 0, none⟩), .int .i64 i] w fun e w' => e = .returned (.tuple #[.slice none 0 0, .bool false]) ∧ w = w' := by
  obtain ⟨⟨c0, c1, c2⟩, f0, f1, f2⟩ := h.cells
  have hi0 : ¬ i < 0 := by omega
  have hmin : (if left < 2147483647 then left else (2147483647 : Int)) = left := if_pos (by omega)
  have hmin2 : (if 2147483647 < left then (2147483647 : Int) else left) = left := if_neg (by omega)
  go_enter Try.func35, Try.ntmps35
  go_wp2_with fail
  go_ret2
  exact ⟨rfl, rfl⟩

theorem free_far (w : World) (lo b g : Nat) (size left : Int) (C : Nat) (F : List (Int × Int)) (sp : List Value) (h : MG w lo b g size left F C sp) (i : Int) (hi : i < 0 ∨ size ≤ i) :
    Calls Try.prog 34 #[.pointer (some ⟨b, 0, none⟩), .int .i64 i] w fun e w' => e = .returned (.bool false) ∧ w = w' := by
  obtain ⟨⟨c0, c1, c2⟩, f0, f1, f2⟩ := h.cells
  go_enter Try.func34, Try.ntmps34
  by_cases h0 : i < 0
  · go_wp2_with fail
    go_ret
    exact ⟨rfl, rfl⟩
  · have h1 : size ≤ i := by omega
    go_wp2_with fail
    go_ret
    exact ⟨rfl, rfl⟩

theorem mark_out (w : World) (lo b g K : Nat) (size left i : Int) (C : Nat) (F : List (Int × Int)) (sp : List Value) (h : MG w lo b g size left F C sp) (hn : F.length ≤ 1000000) (hm : ∀ (k : Nat) f u, F[k]? = some (f, u) → decide (i < u) = decide (K ≤ k)) (hK : K = F.length) :
    Calls Try.prog 33 #[.pointer (some ⟨b, 0, none⟩), .int .i64 i] w fun e w' => e = .returned (.bool false) ∧ Below w.heap.size w w' := by
  have HF := hid (findG_out w b g lo K size left i C F sp h hn hm hK)
  clear h hn hm hK
  go_enter Try.func33, Try.ntmps33
  go_wp2_with (first
    | (refine (HF.out).mono ?_; rintro e w2 ⟨rfl, hb2⟩)
    | fail)
  go_ret
  exact ⟨rfl, hb2⟩

theorem mark_gap (w : World) (lo b g K : Nat) (size left i : Int) (C : Nat) (F : List (Int × Int)) (sp : List Value) (h : MG w lo b g size left F C sp) (hn : F.length ≤ 1000000) (hm : ∀ (k : Nat) f u, F[k]? = some (f, u) → decide (i < u) = decide (K ≤ k)) (f u : Int) (hf : F[K]? = some (f, u)) (hi : i < f) :
    Calls Try.prog 33 #[.pointer (some ⟨b, 0, none⟩), .int .i64 i] w fun e w' => e = .returned (.bool false) ∧ Below w.heap.size w w' := by
  have hh := findG_in w b g lo K size left i C F sp h hn hm f u hf
  rw [decide_eq_false (show ¬ f ≤ i by omega)] at hh
  have HF := hid hh
  clear h hn hm hf hh
  go_enter Try.func33, Try.ntmps33
  go_wp2_with (first
    | (refine (HF.out).mono ?_; rintro e w2 ⟨rfl, hb2⟩)
    | fail)
  go_ret
  exact ⟨rfl, hb2⟩

theorem free_free (w : World) (lo b g K : Nat) (size left i : Int) (C : Nat) (F : List (Int × Int)) (sp : List Value) (h : MG w lo b g size left F C sp) (hn : F.length ≤ 1000000) (hm : ∀ (k : Nat) f u, F[k]? = some (f, u) → decide (i < u) = decide (K ≤ k)) (f u : Int) (hf : F[K]? = some (f, u)) (hi : f ≤ i) (h0 : 0 ≤ i) (h1 : i < size) :
    Calls Try.prog 34 #[.pointer (some ⟨b, 0, none⟩), .int .i64 i] w fun e w' => e = .returned (.bool false) ∧ Below w.heap.size w w' := by
  obtain ⟨⟨c0, c1, c2⟩, f0, f1, f2⟩ := h.cells
  have hh := findG_in w b g lo K size left i C F sp h hn hm f u hf
  rw [decide_eq_true hi] at hh
  have HF := hid hh
  have hi0 : ¬ i < 0 := by omega
  have hi1 : ¬ size ≤ i := by omega
  clear h hn hm hf hh
  go_enter Try.func34, Try.ntmps34
  go_wp2_with (first
    | (refine (HF.out).mono ?_; rintro e w2 ⟨rfl, hb2⟩)
    | fail)
  go_ret
  exact ⟨rfl, hb2⟩

end Go.Proofs.Ytbagpckiegpalaa
