/-
  Layer 5: Arm, Len, On, Steps, Way, Read: contracts.
-/
import Derived.Test.YtbagpckiegpalaaSlabN
import Derived.Laws.Rows
namespace Go.Proofs.Ytbagpckiegpalaa
open Go.RowKit

theorem len_any (base b bn bd : Nat) (wv : Value) (s : Sl) (w : World) (h : SlabAt w base b bn bd wv s) :
    Calls Try.prog 37 #[.pointer (some ⟨b, 0, none⟩)] w fun e w' => e = .returned (.int .i64 (s.n : Int)) ∧ w = w' := by
  obtain ⟨c0, c1, c2, c3, c4, c5, hf⟩ := h.cells
  clear hf h
  skip
  all_goals
    go_enter Try.func37, Try.ntmps37
    go_wp2
    go_ret
    exact ⟨rfl, rfl⟩

theorem len_nil (w : World) :
    Calls Try.prog 37 #[.pointer none] w fun e w' => e = .returned (.int .i64 0) ∧ w = w' := by
  go_enter Try.func37, Try.ntmps37
  go_wp2
  go_ret
  exact ⟨rfl, rfl⟩

theorem arm_nil (n : Int) (w : World) :
    Calls Try.prog 27 #[.pointer none, .int .i64 n] w fun e w' => e = .returned (.int .i64 6) ∧ w = w' := by
  go_enter Try.func27, Try.ntmps27
  go_wp2
  go_ret
  exact ⟨rfl, rfl⟩

theorem arm_neg (b : Nat) (n : Int) (w : World) (hn : n < 0) :
    Calls Try.prog 27 #[.pointer (some ⟨b, 0, none⟩), .int .i64 n] w fun e w' => e = .returned (.int .i64 1) ∧ w = w' := by
  go_enter Try.func27, Try.ntmps27
  go_wp2
  go_ret
  exact ⟨rfl, rfl⟩

theorem arm_any (base b bn bd : Nat) (wv : Value) (s : Sl) (n : Nat) (w : World) (h : SlabAt w base b bn bd wv s) (hn : n ≤ 9223372036854775807) :
    Calls Try.prog 27 #[.pointer (some ⟨b, 0, none⟩), .int .i64 (n : Int)] w fun e w' => e = .returned (.int .i64 0) ∧ SlabAt w' base b bn bd wv { s with armed := n } ∧ Keeps (fun k => k = b) w w' := by
  obtain ⟨c0, c1, c2, c3, c4, c5, hf⟩ := h.cells
  have f4 := hf 4
  have H := hid h
  have hn0 : ¬ (n : Int) < 0 := by omega
  clear hf h
  go_enter Try.func27, Try.ntmps27
  go_wp2
  go_ret
  refine ⟨rfl, ?_, keeps_set _ _ _ _⟩
  refine H.out.head (keeps_set _ _ _ _) ?_ rfl rfl rfl ?_
  · exact (heap_setCell_same _ _ _ _ _ _ H.out.1).trans (by simp)
  · obtain ⟨o1, o2, o3, o4, o5, o6, o7⟩ := H.out.2.2.2.2.2.2.2.2.2.2.2
    exact ⟨o1, o2, o3, o4, o5, o6, hn⟩

/-- The bytes of the sector i. -/
def sect (l : List UInt8) (i : Nat) : List UInt8 := (l.drop (i * 128)).take 128

theorem sect_length (l : List UInt8) (i n : Nat) (hl : l.length = n * 128) (hi : i < n) : (sect l i).length = 128 := by
  unfold sect
  rw [List.length_take, List.length_drop]
  omega

theorem sect_range {w : World} {g i n : Nat} {l : List UInt8} {t : TypeId} (hg : w.heap[g]? = some (.cells (l.map bv).toArray t (0, 0))) (hl : l.length = n * 128) (hi : i < n) : w.rangeAt g (i * 128) ((sect l i).map bv) := by
  intro j v hv
  rw [cell_of_row _ _ _ _ _ _ hg]
  rw [List.getElem?_map] at hv
  have hj : j < 128 := by
    rcases Nat.lt_or_ge j 128 with h' | h'
    · exact h'
    · rw [List.getElem?_eq_none (by rw [sect_length l i n hl hi]; exact h')] at hv
      cases hv
  unfold sect at hv
  rw [List.getElem?_take_of_lt hj, List.getElem?_drop] at hv
  simpa using hv

theorem sector_desc : ∃ d, Try.prog.underlying 98 = some d ∧ d.isRow = true := ⟨_, Try.underlying98, rfl⟩
theorem sector_size : (Try.prog.info? 98).map (·.size) = some 128 := by kernel_rfl

theorem zero_size : Try.zeroCells98.size = 128 := by kernel_rfl

theorem read_nil (i : Int) (w : World) :
    Calls Try.prog 31 #[.pointer none, .int .i64 i] w fun e w' => e = .returned (.tuple #[.slice none 0 0, .int .i64 6]) ∧ w = w' := by
  go_enter Try.func31, Try.ntmps31
  go_wp2
  go_ret2
  exact ⟨rfl, rfl⟩

theorem read_no (base b bn bd : Nat) (wv : Value) (s : Sl) (i : Int) (w : World) (h : SlabAt w base b bn bd wv s) (hi : s.has i = false) :
    Calls Try.prog 31 #[.pointer (some ⟨b, 0, none⟩), .int .i64 i] w fun e w' => e = .returned (.tuple #[.slice none 0 0, .int .i64 1]) ∧ w = w' := by
  have HI := hid hi
  have HT := hid (there_any base b bn bd wv s i w h)
  clear h hi
  go_enter Try.func31, Try.ntmps31
  go_wp2_with fail
  refine HT.out.mono ?_
  rintro e w' ⟨rfl, rfl⟩
  rw [HI.out]
  go_wp2
  go_ret2
  exact ⟨rfl, rfl⟩

theorem read_off (base b bn bd : Nat) (wv : Value) (s : Sl) (i : Int) (w : World) (h : SlabAt w base b bn bd wv s) (hi : s.has i = true) (ho : s.off = true) :
    Calls Try.prog 31 #[.pointer (some ⟨b, 0, none⟩), .int .i64 i] w fun e w' => e = .returned (.tuple #[.slice none 0 0, .int .i64 13]) ∧ w = w' := by
  have HI := hid hi
  have HT := hid (there_any base b bn bd wv s i w h)
  obtain ⟨c0, c1, c2, c3, c4, c5, hf⟩ := h.cells
  rw [ho] at c3
  clear h hi hf ho
  go_enter Try.func31, Try.ntmps31
  go_wp2_with fail
  refine HT.out.mono ?_
  rintro e w' ⟨rfl, rfl⟩
  rw [HI.out]
  go_wp2
  go_ret2
  exact ⟨rfl, rfl⟩

set_option maxRecDepth 100000 in
set_option maxHeartbeats 2000000 in
theorem read_any (base b bn bd : Nat) (wv : Value) (s : Sl) (i : Nat) (w : World) (h : SlabAt w base b bn bd wv s) (hi : i < s.n) (ho : s.off = false) :
    Calls Try.prog 31 #[.pointer (some ⟨b, 0, none⟩), .int .i64 (i : Int)] w fun e w' => ∃ g, e = .returned (.tuple #[.slice (some ⟨g, 0, none⟩) 128 128, .int .i64 0]) ∧ w'.heap[g]? = some (.cells ((sect s.now i).map bv).toArray 98 (0, 0)) ∧ w.heap.size ≤ g ∧ Below w.heap.size w w' := by
  have HI := hid (show s.has (i : Int) = true by simp [Sl.has]; omega)
  have HT := hid (there_any base b bn bd wv s (i : Int) w h)
  obtain ⟨c0, c1, c2, c3, c4, c5, hf⟩ := h.cells
  rw [ho] at c3
  have hok := h.2.2.2.2.2.2.2.2.2.2.2
  have hn := hok.2.1
  have HRG := hid (sect_range h.2.1 hok.2.2.1 hi)
  have HSL := hid (sect_length s.now i s.n hok.2.2.1 hi)
  obtain ⟨d, hd1, hd2⟩ := sector_desc
  have HD1 := hid hd1
  have HD2 := hid hd2
  obtain ⟨cs, hcs⟩ : ∃ cs, cs = (sect s.now i).map bv := ⟨_, rfl⟩
  have HCL := hid (show cs.length = 128 by rw [hcs, List.length_map]; exact HSL.out)
  have HC1 := hid (show cs.toArray.all (·.oneCell') = true by rw [hcs]; exact all_oneCell_toArray (fun v hv => by simp only [List.mem_map] at hv; obtain ⟨x, _, rfl⟩ := hv; rfl))
  rw [← hcs] at HRG ⊢
  clear hcs h hf ho hok hd1 hd2
  go_enter Try.func31, Try.ntmps31
  go_wp2_with fail
  refine HT.out.mono ?_
  rintro e w' ⟨rfl, rfl⟩
  rw [HI.out]
  go_wp2_with (first | (refine wpList_load_mid rfl 98 (.tmp 25) rfl bn (i * 128) rfl cs d HRG.out HD1.out HD2.out (by rw [sector_size, HCL.out]) ?_) | (refine wpList_store_row rfl 98 (.tmp 6) (.tmp 26) rfl w.heap.size cs.toArray rfl rfl 98 Try.zeroCells98 (heap_alloc_new w _) (by rw [sector_size]; simp [HCL.out]) (by rw [zero_size]; simp [HCL.out]) HC1.out ?_) | fail)
  go_ret2
  exact ⟨_, rfl, setRow_heap (w.alloc _) w.heap.size _ _ _ _ (heap_alloc_new w _), Nat.le_refl _, ((Below.refl _ _).alloc (Nat.le_refl _) _).trans ⟨rfl, rfl, rfl, by simp, fun k hk => setRow_other _ _ k _ (by omega)⟩⟩

end Go.Proofs.Ytbagpckiegpalaa
