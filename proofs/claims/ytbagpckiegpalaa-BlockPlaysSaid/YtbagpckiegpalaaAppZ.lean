/-
  append(s, make([]byte, n)...) onto a slice of the call's own: noughts behind it.
-/
import Derived.Test.YtbagpckiegpalaaKit
import Derived.Lib.AppendZerosOnto
import Derived.Laws.AppendOwn
namespace Go.Proofs.Ytbagpckiegpalaa
open Go.RowKit

theorem zeroBytes (n : Nat) : Builtin.zeroCells (Value.int .u8 0).cells n = ((zeros n).map bv).toArray := by
  apply Array.ext
  · simp [Builtin.zeroCells, Value.cells, zeros]
  · intro i h1 h2
    simp only [Builtin.zeroCells, Value.cells, zeros, Array.getElem_map, Array.getElem_range, List.getElem_toArray, List.map_replicate, List.getElem_replicate]
    rw [getElem!_pos _ _ (by simp; omega)]
    simp [bv, Nat.mod_one]

theorem own_made (w : World) (base : Nat) (l : List UInt8) (n old : Nat) (hb : base ≤ w.heap.size) (h63 : l.length + n ≤ maxLen) :
    Own (w.drew.alloc (.cells ((l.map bv).toArray ++ Builtin.zeroCells (Value.int .u8 0).cells n ++ Builtin.zeroCells (Value.int .u8 0).cells (grownCap w (l.length + n) old 5 - (l.length + n))) 5)) base (.slice (some ⟨w.heap.size, 0, none⟩) (l.length + n) (grownCap w (l.length + n) old 5)) (l ++ zeros n) := by
  have hge := grownCap_ge w (l.length + n) old 5
  have hcm := grownCap_le_maxLen w (l.length + n) old 5 h63
  unfold Own
  rw [List.length_append, zeros_length]
  refine ⟨by simp [zeros_length], .inr ⟨w.heap.size, _, _, rfl, hb, heap_alloc_new w.drew _, hge, hcm, ?_, ?_⟩⟩
  · simp only [Array.size_append, List.size_toArray, List.length_map, size_zeroCells, Value.cells]
    simp
    omega
  · rw [zeroBytes, zeroBytes]
    simp only [Array.toList_append, List.map_append, List.append_assoc]
    rw [← List.append_assoc, List.take_append_of_le_length (by simp [zeros_length]), List.take_of_length_le (by simp [zeros_length])]

theorem run_appz (w : World) (ty : TypeId) (base : Nat) (v : Value) (l : List UInt8) (n : Nat) (hown : Own w base v l) (hbytes : l.length + n ≤ 140737488355328) (hbase : base ≤ w.heap.size) :
    ∃ ad cap w', (Builtin.append_ #[32, 3] ty #[v, .int .i64 (n : Int)]).run Try.prog w = .ok (.slice ad (l.length + n) cap) w' ∧ Own w' base (.slice ad (l.length + n) cap) (l ++ zeros n) ∧ w.grownBy w' v.ownBlock := by
  obtain ⟨i, hi, hz0, hz1, hz2⟩ := info_parts Try.infoU8
  have h63 : l.length + n ≤ maxLen := by unfold maxLen; omega
  have hw0 : IntKind.i64.wrap 0 = 0 := by rw [IntKind.wrap_i64]; omega
  have hzc : (Value.int IntKind.u8 0).cells.size = 1 := rfl
  rcases hown.2 with ⟨rfl, hl⟩ | ⟨g, cap, cur, rfl, hbg, hg, hnc, hcm, hcs, htake⟩
  · obtain rfl : l = [] := List.eq_nil_of_length_eq_zero hl
    by_cases h0 : n = 0
    · subst h0
      refine ⟨none, 0, w, ?_, by simpa [zeros] using hown, ⟨rfl, rfl, rfl, Nat.le_refl _, fun _ _ _ => rfl⟩⟩
      simp [Builtin.append_, run_underlying Try.underlying32, run_underlying Try.underlying3, sizeOf, typeInfo, hi, asInt, asIntOf, hz2, hw0]
    · have hr := Lib.run_append_nil_zeros (P := Try.prog) w 32 3 ty 5 i (.int .u8 0) .i64 .i64 Try.underlying32 Try.underlying3 hi hz0 n (by omega) (by omega) (by omega) (by rw [hz2]; omega)
      have ho := own_made w base [] n 0 hbase h63
      simp only [List.length_nil, Nat.zero_add, List.map_nil, List.nil_append, Array.empty_append] at ho ⊢
      exact ⟨_, _, _, hr, ho, ⟨rfl, rfl, rfl, by simp, fun k hk _ => Below.heap_alloc w.drew _ k hk⟩⟩
  · have hadd : (⟨g, 0, none⟩ : Addr).add (l.length * i.size) = ⟨g, l.length, none⟩ := by rw [hz1, Addr.add_lit, Nat.mul_one, Nat.zero_add]
    by_cases hroom : l.length + n ≤ cap
    · have hwr : IntKind.i64.wrap (n : Int) = n := by rw [IntKind.wrap_i64]; omega
      have h48i : ¬ (281474976710656 < (n : Int) * (i.bytes : Int)) := by rw [hz2]; omega
      have hneg : ¬ ((n : Int) < 0) := by omega
      have hfit : l.length + ((zeros n).map bv).length ≤ cur.size := by rw [List.length_map, zeros_length]; omega
      have hst := run_storeCells_at Try.prog g l.length 5 ((zeros n).map bv) 0 cur w hg (by simpa using hfit) (fun u hu => by
        simp only [List.mem_map] at hu
        obtain ⟨x, _, rfl⟩ := hu
        rfl)
      simp only [Nat.add_zero] at hst
      refine ⟨some ⟨g, 0, none⟩, cap, w.setRow g (cur.toList.take l.length ++ (zeros n).map bv ++ cur.toList.drop (l.length + ((zeros n).map bv).length)).toArray, ?_, ?_, ⟨rfl, rfl, rfl, by simp, fun k _ hk => setRow_other w g k _ (fun e => hk (by simp [Value.ownBlock, e]))⟩⟩
      · by_cases hn0 : n = 0
        · subst hn0
          simp only [zeros, List.replicate_zero, List.map_nil] at hst ⊢
          simp [Builtin.append_, run_underlying Try.underlying32, run_underlying Try.underlying3, sizeOf, typeInfo, hi, asInt, asIntOf, hz2, hw0, hadd, hst, show l.length ≤ cap by omega]
        · have hns : ¬ (n * i.size = 0) := by rw [hz1]; omega
          simp [Builtin.append_, run_underlying Try.underlying32, run_underlying Try.underlying3, sizeOf, typeInfo, zeroValue, hi, hz0, asInt, asIntOf, hwr, hneg, hns, h48i, hroom, hadd, zeroBytes]
          rw [hst]
          simp
      · unfold Own
        rw [List.length_append, zeros_length]
        refine ⟨by simp [zeros_length], .inr ⟨g, cap, _, rfl, hbg, setRow_heap w g cur _ 5 _ hg, hroom, hcm, ?_, ?_⟩⟩
        · simp only [List.size_toArray, List.length_append, List.length_take, List.length_drop, Array.length_toList]
          rw [List.length_map, zeros_length] at hfit ⊢
          omega
        · rw [Nat.mul_one] at htake ⊢
          rw [htake, List.map_append, List.take_append_of_le_length (by simp [zeros_length]), List.take_of_length_le (by simp [zeros_length])]
    · have holds := World.ownsRow.cells hown (g := g) rfl
      have hold := run_firstCells_some (P := Try.prog) w.drew i.size l.length ⟨g, 0, none⟩ l.length cap (l.map bv) (by rw [hz1]; simp) holds
      have hfit := growslice_fits (need := l.length + n) (old := cap) (bytes := i.bytes) (by omega) (by rw [hz2]; omega)
      have hr := Lib.run_append_grow_zeros (P := Try.prog) w 32 3 ty 5 i (.int .u8 0) .i64 .i64 Try.underlying32 Try.underlying3 hi hz0 (some ⟨g, 0, none⟩) l.length cap (l.map bv) hold n (by omega) (by omega) (by omega) (by omega) (by rw [hz2]; omega) hfit
      exact ⟨_, _, _, hr, own_made w base l n cap hbase h63, ⟨rfl, rfl, rfl, by simp, fun k hk _ => Below.heap_alloc w.drew _ k hk⟩⟩

end Go.Proofs.Ytbagpckiegpalaa
