/-
  New, the book's and the document's.
-/
import Derived.Test.YtljnkebmdegcpaaLeaT
import Derived.Laws.MakeOwn
namespace Go.Proofs.Ytljnkebmdegcpaa
open Go.RowKit
set_option linter.unusedVariables false
set_option linter.unusedSimpArgs false

def zs (n : Nat) : List Nd := List.replicate n (0, 0, 0, 0)
theorem zs_len (n : Nat) : (zs n).length = n := List.length_replicate
theorem zs_ok (n : Nat) : ∀ x ∈ zs n, NdOk x := fun x hx => by rw [List.eq_of_mem_replicate hx]; exact ⟨by decide, by decide, by decide, by decide⟩
theorem infoE : (Try.prog.info? 65).map (fun i => (i.zero, i.size, i.bytes)) = some (some (.agg #[.int .u8 0, .int .u32 0, .int .u32 0, .int .u32 0]), 4, 16) := by kernel_rfl
theorem infoR : (Try.prog.info? 49).map (fun i => (i.zero, i.size, i.bytes)) = some (some (.agg #[.int .u8 0, .int .u32 0, .int .u32 0, .int .u32 0]), 4, 16) := by kernel_rfl
theorem made16 : ∀ n, n ≤ 16 → madeCells #[.int .u8 0, .int .u32 0, .int .u32 0, .int .u32 0] (n * 4) = (ncels (zs n)).toArray
  | 0, _ => by kernel_rfl
  | 1, _ => by kernel_rfl
  | 2, _ => by kernel_rfl
  | 3, _ => by kernel_rfl
  | 4, _ => by kernel_rfl
  | 5, _ => by kernel_rfl
  | 6, _ => by kernel_rfl
  | 7, _ => by kernel_rfl
  | 8, _ => by kernel_rfl
  | 9, _ => by kernel_rfl
  | 10, _ => by kernel_rfl
  | 11, _ => by kernel_rfl
  | 12, _ => by kernel_rfl
  | 13, _ => by kernel_rfl
  | 14, _ => by kernel_rfl
  | 15, _ => by kernel_rfl
  | 16, _ => by kernel_rfl
  | n + 17, h => by omega
theorem mkE (n : Nat) (h : n ≤ 16) (w : World) : (Instr.makeSlice 58 (.int .i64 (n : Int)) (.int .i64 (n : Int))).run Try.prog w = .ok (.slice (some ⟨w.heap.size, 0, none⟩) n n) (w.alloc (.cells (ncels (zs n)).toArray 65)) := by
  obtain ⟨i, hi, hz0, hz1, hz2⟩ := info_parts infoE
  have := run_makeSlice (P := Try.prog) (w := w) 58 65 i _ Try.underlying58 hi hz0 .i64 .i64 n n (by omega) (Int.le_refl _) (by rw [hz1]; simp; omega) (by rw [hz2]; omega) (by omega)
  rw [this, hz1]
  simp only [Int.toNat_natCast]
  rw [show (Value.agg #[.int .u8 0, .int .u32 0, .int .u32 0, .int .u32 0]).cells = #[.int .u8 0, .int .u32 0, .int .u32 0, .int .u32 0] from rfl, made16 n h]
theorem mkR (n : Nat) (h : n ≤ 16) (w : World) : (Instr.makeSlice 28 (.int .i64 (n : Int)) (.int .i64 (n : Int))).run Try.prog w = .ok (.slice (some ⟨w.heap.size, 0, none⟩) n n) (w.alloc (.cells (ncels (zs n)).toArray 49)) := by
  obtain ⟨i, hi, hz0, hz1, hz2⟩ := info_parts infoR
  have := run_makeSlice (P := Try.prog) (w := w) 28 49 i _ Try.underlying28 hi hz0 .i64 .i64 n n (by omega) (Int.le_refl _) (by rw [hz1]; simp; omega) (by rw [hz2]; omega) (by omega)
  rw [this, hz1]
  simp only [Int.toNat_natCast]
  rw [show (Value.agg #[.int .u8 0, .int .u32 0, .int .u32 0, .int .u32 0]).cells = #[.int .u8 0, .int .u32 0, .int .u32 0, .int .u32 0] from rfl, made16 n h]
theorem owns_madeN (w : World) (lo : Nat) (e : TypeId) (l : List Nd) (h : lo ≤ w.heap.size) (hl : l.length ≤ 1000) : (w.alloc (.cells (ncels l).toArray e)).ownsRow lo e 4 (.slice (some ⟨w.heap.size, 0, none⟩) l.length l.length) l.length (ncels l) :=
  ⟨ncels_len l, .inr ⟨_, l.length, _, rfl, h, heap_alloc_new w _, Nat.le_refl _, by unfold maxLen; omega, by simp [ncels_len], by rw [← ncels_len]; simp⟩⟩

set_option maxHeartbeats 1000000 in
theorem new_no (w : World) (n : Int) (h : n < 1 ∨ 16 < n) : Calls Try.prog 8 #[.int .i64 n] w fun e w' => e = .returned (.tuple #[.pointer none, .int .i64 1]) ∧ w = w' := by
  by_cases h1 : n < 1
  · have e1 : decide (n < 1) = true := decide_eq_true h1
    clear h
    go_enter Try.func8, Try.ntmps8
    go_wp2
    go_ret2
    exact ⟨rfl, rfl⟩
  · have e1 : decide (n < 1) = false := decide_eq_false h1
    have h2 : 16 < n := by omega
    have e2 : decide (n > 16) = true := decide_eq_true h2
    clear h
    go_enter Try.func8, Try.ntmps8
    go_wp2
    go_ret2
    exact ⟨rfl, rfl⟩

set_option maxHeartbeats 1000000 in
theorem new_yes (w : World) (n : Nat) (h1 : 1 ≤ n) (h2 : n ≤ 16) : Calls Try.prog 8 #[.int .i64 (n : Int)] w fun e w' => e = .returned (.tuple #[.pointer (some ⟨w.heap.size + 1, 0, none⟩), .int .i64 0]) ∧ BkAt w' (w.heap.size + 1) w.heap.size (zs n) ∧ Below w.heap.size w w' := by
  have e1 : decide ((n : Int) < 1) = false := decide_eq_false (by omega)
  have e2 : decide ((n : Int) > 16) = false := decide_eq_false (by omega)
  have e3 : ¬ 16 < n := by omega
  have e4 : ¬ n < 1 := by omega
  have hmk := mkE n h2
  have HE : ∀ W w', W = (w.alloc (.cells (ncels (zs n)).toArray 65)) → w' = W.alloc (.cells #[.slice (some ⟨w.heap.size, 0, none⟩) n n] 60) → BkAt w' (w.heap.size + 1) w.heap.size (zs n) ∧ Below w.heap.size w w' := by
    rintro W w' rfl rfl
    have s1 : (w.alloc (.cells (ncels (zs n)).toArray 65)).heap.size = w.heap.size + 1 := World.size_alloc _ _
    refine ⟨⟨?_, ?_, by rw [zs_len]; exact ⟨h1, h2⟩, zs_ok n⟩, ((Below.refl _ _).alloc (Nat.le_refl _) _).alloc (by rw [s1]; omega) _⟩
    · rw [zs_len, ← s1]; exact heap_alloc_new _ _
    · exact ((Below.refl _ (w.alloc (.cells (ncels (zs n)).toArray 65))).alloc (Nat.le_refl _) _).block _ (by omega) |>.trans (heap_alloc_new w _)
  have HE := hid HE
  clear h1 h2
  go_enter Try.func8, Try.ntmps8
  go_wp2
  go_ret2
  exact ⟨rfl, HE.out _ _ rfl rfl⟩

set_option maxHeartbeats 1000000 in
theorem refnew_no (w : World) (n : Int) (h : n < 1 ∨ 16 < n) : Calls Try.prog 9 #[.int .i64 n] w fun e w' => e = .returned (.tuple #[.slice none 0 0, .int .i64 1]) ∧ w = w' := by
  by_cases h1 : n < 1
  · have e1 : decide (n < 1) = true := decide_eq_true h1
    clear h
    go_enter Try.func9, Try.ntmps9
    go_wp2
    go_ret2
    exact ⟨rfl, rfl⟩
  · have e1 : decide (n < 1) = false := decide_eq_false h1
    have h2 : 16 < n := by omega
    have e2 : decide (n > 16) = true := decide_eq_true h2
    clear h
    go_enter Try.func9, Try.ntmps9
    go_wp2
    go_ret2
    exact ⟨rfl, rfl⟩

set_option maxHeartbeats 1000000 in
theorem refnew_yes (w : World) (n : Nat) (h1 : 1 ≤ n) (h2 : n ≤ 16) : Calls Try.prog 9 #[.int .i64 (n : Int)] w fun e w' => e = .returned (.tuple #[.slice (some ⟨w.heap.size, 0, none⟩) n n, .int .i64 0]) ∧ w'.ownsRow w.heap.size 49 4 (.slice (some ⟨w.heap.size, 0, none⟩) n n) n (ncels (zs n)) ∧ Below w.heap.size w w' := by
  have e1 : decide ((n : Int) < 1) = false := decide_eq_false (by omega)
  have e2 : decide ((n : Int) > 16) = false := decide_eq_false (by omega)
  have e3 : ¬ 16 < n := by omega
  have e4 : ¬ n < 1 := by omega
  have hmk := mkR n h2
  have HO := hid (owns_madeN w w.heap.size 49 (zs n) (Nat.le_refl _) (by rw [zs_len]; omega))
  rw [zs_len] at HO
  clear h1 h2
  go_enter Try.func9, Try.ntmps9
  go_wp2
  go_ret2
  exact ⟨rfl, HO.out, (Below.refl _ _).alloc (Nat.le_refl _) _⟩

end Go.Proofs.Ytljnkebmdegcpaa
