/-
  Layer 5: New, there, fate, kept, Arm, Len, On, Steps, Way: contracts.
-/
import Derived.Test.YtbagpckiegpalaaSlabM
import Derived.Laws.MakeOwn
import Derived.BigRegion
import Derived.Deep.QuietTactic
import Derived.BigQuiet
namespace Go.Proofs.Ytbagpckiegpalaa
open Go.RowKit

theorem below_drw {B : Nat} {w w' : World} (h : Below B w w') : Below B w w'.drew := ⟨h.os, h.tape, h.output, h.size, h.block⟩

def Sl.new (n : Nat) : Sl := ⟨n, List.replicate (n * 128) 0, List.replicate (n * 128) 0, [], false, 0, 0⟩

theorem Sl.new_ok (n : Nat) (h1 : 1 ≤ n) (h2 : n ≤ 4096) : (Sl.new n).ok := ⟨h1, h2, by simp [Sl.new], by simp [Sl.new], (fun x hx => by cases hx), by simp [Sl.new], by simp [Sl.new]⟩

theorem OwnWay.nil (w : World) (base : Nat) : OwnWay w base (.slice none 0 0) [] := World.ownsRow_nil _ _ _ _

theorem noughts (n : Nat) : madeCells (Value.agg (Array.replicate 128 (.int .u8 0))).cells (n * 128) = ((List.replicate (n * 128) (0 : UInt8)).map bv).toArray := by
  apply Array.ext
  · simp [madeCells]
  · intro i h1 h2
    simp only [madeCells, Value.cells, Array.getElem_map, Array.getElem_range, List.getElem_toArray, List.map_replicate, List.getElem_replicate, Array.size_replicate]
    rw [getElem!_pos _ _ (by simp; omega)]
    simp [bv]

theorem mksect (n : Nat) (h2 : n ≤ 4096) (w : World) : (Instr.makeSlice 83 (.int .i64 (n : Int)) (.int .i64 (n : Int))).run Try.prog w = .ok (.slice (some ⟨w.heap.size, 0, none⟩) n n) (w.alloc (.cells ((List.replicate (n * 128) (0 : UInt8)).map bv).toArray 98)) := by
  have hinfo : (Try.prog.info? 98).map (fun i => (i.zero, i.size, i.bytes)) = some (some (.agg (Array.replicate 128 (.int .u8 0))), 128, 128) := by kernel_rfl
  obtain ⟨i, hi, hz0, hz1, hz2⟩ := info_parts hinfo
  have := run_makeSlice (P := Try.prog) (w := w) 83 98 i _ Try.underlying83 hi hz0 .i64 .i64 n n (by omega) (Int.le_refl _) (by rw [hz1]; simp; omega) (by rw [hz2]; omega) (by omega)
  rw [this, hz1]
  simp only [Int.toNat_natCast]
  rw [noughts]

theorem new_at (n : Nat) (h1 : 1 ≤ n) (h2 : n ≤ 4096) (w : World) (bn bd : Nat) (hb : (bn = w.heap.size ∧ bd = w.heap.size + 1) ∨ (bn = w.heap.size + 1 ∧ bd = w.heap.size)) :
    SlabAt (((w.alloc (.cells ((List.replicate (n * 128) (0 : UInt8)).map bv).toArray 98)).alloc (.cells ((List.replicate (n * 128) (0 : UInt8)).map bv).toArray 98)).alloc (.cells #[.slice (some ⟨bn, 0, none⟩) n n, .slice (some ⟨bd, 0, none⟩) n n, .slice none 0 0, .bool false, .int .i64 0, .int .i64 0] 86)) w.heap.size (w.heap.size + 1 + 1) bn bd (.slice none 0 0) (Sl.new n) := by
  have e2 : (((w.alloc (.cells ((List.replicate (n * 128) (0 : UInt8)).map bv).toArray 98)).alloc (.cells ((List.replicate (n * 128) (0 : UInt8)).map bv).toArray 98)).alloc (.cells #[.slice (some ⟨bn, 0, none⟩) n n, .slice (some ⟨bd, 0, none⟩) n n, .slice none 0 0, .bool false, .int .i64 0, .int .i64 0] 86)).heap[w.heap.size + 1 + 1]? = some (.cells #[.slice (some ⟨bn, 0, none⟩) n n, .slice (some ⟨bd, 0, none⟩) n n, .slice none 0 0, .bool false, .int .i64 0, .int .i64 0] 86 (0, 0)) := by
    have := heap_alloc_new ((w.alloc (.cells ((List.replicate (n * 128) (0 : UInt8)).map bv).toArray 98)).alloc (.cells ((List.replicate (n * 128) (0 : UInt8)).map bv).toArray 98)) (.cells #[.slice (some ⟨bn, 0, none⟩) n n, .slice (some ⟨bd, 0, none⟩) n n, .slice none 0 0, .bool false, .int .i64 0, .int .i64 0] 86)
    rwa [show ((w.alloc (.cells ((List.replicate (n * 128) (0 : UInt8)).map bv).toArray 98)).alloc (.cells ((List.replicate (n * 128) (0 : UInt8)).map bv).toArray 98)).heap.size = w.heap.size + 1 + 1 by simp] at this
  have e1 : (((w.alloc (.cells ((List.replicate (n * 128) (0 : UInt8)).map bv).toArray 98)).alloc (.cells ((List.replicate (n * 128) (0 : UInt8)).map bv).toArray 98)).alloc (.cells #[.slice (some ⟨bn, 0, none⟩) n n, .slice (some ⟨bd, 0, none⟩) n n, .slice none 0 0, .bool false, .int .i64 0, .int .i64 0] 86)).heap[w.heap.size + 1]? = some (.cells ((List.replicate (n * 128) (0 : UInt8)).map bv).toArray 98 (0, 0)) := by
    have := heap_alloc_new (w.alloc (.cells ((List.replicate (n * 128) (0 : UInt8)).map bv).toArray 98)) (.cells ((List.replicate (n * 128) (0 : UInt8)).map bv).toArray 98)
    rw [show (w.alloc (.cells ((List.replicate (n * 128) (0 : UInt8)).map bv).toArray 98)).heap.size = w.heap.size + 1 by simp] at this
    exact (Below.heap_alloc _ _ _ (by simp)).trans this
  have e0 : (((w.alloc (.cells ((List.replicate (n * 128) (0 : UInt8)).map bv).toArray 98)).alloc (.cells ((List.replicate (n * 128) (0 : UInt8)).map bv).toArray 98)).alloc (.cells #[.slice (some ⟨bn, 0, none⟩) n n, .slice (some ⟨bd, 0, none⟩) n n, .slice none 0 0, .bool false, .int .i64 0, .int .i64 0] 86)).heap[w.heap.size]? = some (.cells ((List.replicate (n * 128) (0 : UInt8)).map bv).toArray 98 (0, 0)) :=
    (Below.heap_alloc _ _ _ (by simp <;> omega)).trans ((Below.heap_alloc _ _ _ (by simp)).trans (heap_alloc_new w _))
  rcases hb with ⟨rfl, rfl⟩ | ⟨rfl, rfl⟩
  · exact ⟨e2, e0, e1, OwnWay.nil _ _, by omega, by omega, by omega, by omega, by omega, by omega, (fun k hk => by cases hk), Sl.new_ok n h1 h2⟩
  · exact ⟨e2, e1, e0, OwnWay.nil _ _, by omega, by omega, by omega, by omega, by omega, by omega, (fun k hk => by cases hk), Sl.new_ok n h1 h2⟩

set_option maxRecDepth 100000 in
set_option maxHeartbeats 2000000 in
theorem new_yes (n : Nat) (w : World) (h1 : 1 ≤ n) (h2 : n ≤ 4096) :
    Calls Try.prog 10 #[.int .i64 (n : Int)] w fun e w' => ∃ b bn bd, e = .returned (.tuple #[.pointer (some ⟨b, 0, none⟩), .int .i64 0]) ∧ SlabAt w' w.heap.size b bn bd (.slice none 0 0) (Sl.new n) ∧ Below w.heap.size w w' := by
  have hmk := mksect n h2
  obtain ⟨Z, hZ⟩ : ∃ Z, Z = ((List.replicate (n * 128) (0 : UInt8)).map bv).toArray := ⟨_, rfl⟩
  rw [← hZ] at hmk
  have HZ := hid hZ
  clear hZ
  have d1 : ¬ (n : Int) < 1 := by omega
  have d2 : ¬ 4096 < (n : Int) := by omega
  go_enter Try.func10, Try.ntmps10
  go_wp2
  go_region
  all_goals
    go_wp2
    go_ret2
  · rw [HZ.out]
    exact ⟨_, _, _, rfl, new_at n h1 h2 w _ _ (.inl ⟨rfl, rfl⟩), below_drw ((((Below.refl _ _).alloc (Nat.le_refl _) _).alloc (by simp) _).alloc (by simp <;> omega) _)⟩
  · rw [HZ.out]
    exact ⟨_, _, _, rfl, new_at n h1 h2 w _ _ (.inr ⟨rfl, rfl⟩), below_drw ((((Below.refl _ _).alloc (Nat.le_refl _) _).alloc (by simp) _).alloc (by simp <;> omega) _)⟩

theorem new_no (n : Int) (w : World) (h : n < 1 ∨ 4096 < n) :
    Calls Try.prog 10 #[.int .i64 n] w fun e w' => e = .returned (.tuple #[.pointer none, .int .i64 1]) ∧ w = w' := by
  by_cases h1 : n < 1
  · go_enter Try.func10, Try.ntmps10
    go_wp2
    go_ret2
    exact ⟨rfl, rfl⟩
  · have h2 : 4096 < n := by omega
    go_enter Try.func10, Try.ntmps10
    go_wp2
    go_ret2
    exact ⟨rfl, rfl⟩

/-- Is there a sector i? -/
def Sl.has (s : Sl) (i : Int) : Bool := decide (0 ≤ i ∧ i < (s.n : Int))

theorem there_any (base b bn bd : Nat) (wv : Value) (s : Sl) (i : Int) (w : World) (h : SlabAt w base b bn bd wv s) :
    Calls Try.prog 46 #[.pointer (some ⟨b, 0, none⟩), .int .i64 i] w fun e w' => e = .returned (.bool (s.has i)) ∧ w = w' := by
  obtain ⟨c0, c1, c2, c3, c4, c5, hf⟩ := h.cells
  clear hf
  by_cases h0 : 0 ≤ i
  · by_cases h1 : i < (s.n : Int)
    · have HE := hid (show s.has i = true by simp [Sl.has, h0, h1])
      go_enter Try.func46, Try.ntmps46
      go_wp2
      go_ret
      exact ⟨by rw [HE.out]; rfl, rfl⟩
    · have HE := hid (show s.has i = false by simp [Sl.has, h0, h1])
      go_enter Try.func46, Try.ntmps46
      go_wp2
      go_ret
      exact ⟨by rw [HE.out]; rfl, rfl⟩
  · have HE := hid (show s.has i = false by simp [Sl.has, h0])
    go_enter Try.func46, Try.ntmps46
    go_wp2
    go_ret
    exact ⟨by rw [HE.out]; rfl, rfl⟩

end Go.Proofs.Ytbagpckiegpalaa
