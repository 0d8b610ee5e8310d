/-
  Layer 6: Put: contract.
-/
import Derived.Test.YtbagpckiegpalaaBlkS
import Derived.Test.YtbagpckiegpalaaSlabX
namespace Go.Proofs.Ytbagpckiegpalaa
open Go.RowKit
set_option linter.unusedVariables false

theorem Blk.front_length (B : Blk) (h : B.data.length ≤ 110) : B.front.length = 124 := by
  unfold Blk.front Knot.le32
  simp
  omega
theorem Blk.bytes_length (B : Blk) (h : B.data.length ≤ 110) : B.bytes.length = 128 := by
  unfold Blk.bytes
  rw [List.length_append, B.front_length h]
  rfl

/-- Put over a slab's plain state. -/
def Sl.putb (s : Sl) (i : Int) (B : Blk) : Sl × Int :=
  if s.has i = false then (s, 1) else if 104 < B.data.length then (s, 3) else if B.kind = 0 then (s, 4) else s.write i B.bytes

set_option maxHeartbeats 1000000 in
theorem put_nil (i : Int) (B : Blk) (a : Option Addr) (n c : Nat) (w : World) :
    Calls Try.prog 12 #[.pointer none, .int .i64 i, B.val (.slice a n c)] w fun e w' => e = .returned (.int .i64 6) ∧ Below w.heap.size w w' := by
  unfold Blk.val
  go_enter Try.func12, Try.ntmps12
  go_wp2
  go_ret
  exact ⟨rfl, (Below.refl _ _).alloc (Nat.le_refl _) _⟩

set_option maxHeartbeats 2000000 in
theorem put_arg (base b bn bd : Nat) (wv : Value) (s : Sl) (i : Int) (B : Blk) (a : Option Addr) (n c : Nat) (w : World) (h : SlabAt w base b bn bd wv s) (hi : s.has i = false) :
    Calls Try.prog 12 #[.pointer (some ⟨b, 0, none⟩), .int .i64 i, B.val (.slice a n c)] w fun e w' => e = .returned (.int .i64 1) ∧ Below w.heap.size w w' := by
  have hl := fun w' (hb : Below w.heap.size w w') => len_any base b bn bd wv s w' (h.below hb)
  have HL := hid hl
  clear hl
  have hd : (decide (i < 0) || decide ((s.n : Int) ≤ i)) = true := by
    unfold Sl.has at hi
    simp at hi ⊢
    omega
  unfold Blk.val
  by_cases hneg : i < 0
  · go_enter Try.func12, Try.ntmps12
    go_wp2
    go_ret
    exact ⟨rfl, (Below.refl _ _).alloc (Nat.le_refl _) _⟩
  · have hge : (s.n : Int) ≤ i := by simpa [hneg] using hd
    clear hd
    go_enter Try.func12, Try.ntmps12
    go_wp2_with (go_at_call 37; refine (HL.out _ ((Below.refl _ _).alloc (Nat.le_refl _) _)).mono ?_; rintro e w' ⟨rfl, rfl⟩)
    go_ret
    exact ⟨rfl, (Below.refl _ _).alloc (Nat.le_refl _) _⟩

theorem has_in {s : Sl} {i : Int} (h : s.has i = true) : 0 ≤ i ∧ i < (s.n : Int) := by simpa [Sl.has] using h

set_option maxHeartbeats 2000000 in
theorem put_long (base b bn bd : Nat) (wv : Value) (s : Sl) (i : Int) (B : Blk) (a : Option Addr) (n c : Nat) (w : World) (h : SlabAt w base b bn bd wv s) (hi : s.has i = true) (hn : 104 < n) (hm : n ≤ 9223372036854775807) :
    Calls Try.prog 12 #[.pointer (some ⟨b, 0, none⟩), .int .i64 i, B.val (.slice a n c)] w fun e w' => e = .returned (.int .i64 3) ∧ Below w.heap.size w w' := by
  have hl := fun w' (hb : Below w.heap.size w w') => len_any base b bn bd wv s w' (h.below hb)
  have HL := hid hl
  clear hl
  obtain ⟨h1, h2⟩ := has_in hi
  clear hi
  have h1' : ¬ i < 0 := by omega
  have h2' : ¬ (s.n : Int) ≤ i := by omega
  unfold Blk.val
  go_enter Try.func12, Try.ntmps12
  go_wp2_with (go_at_call 37; refine (HL.out _ ((Below.refl _ _).alloc (Nat.le_refl _) _)).mono ?_; rintro e w' ⟨rfl, rfl⟩)
  go_ret
  exact ⟨rfl, (Below.refl _ _).alloc (Nat.le_refl _) _⟩

set_option maxHeartbeats 2000000 in
theorem put_form (base b bn bd : Nat) (wv : Value) (s : Sl) (i : Int) (B : Blk) (a : Option Addr) (n c : Nat) (w : World) (h : SlabAt w base b bn bd wv s) (hi : s.has i = true) (hn : n ≤ 104) (hk : B.kind = 0) :
    Calls Try.prog 12 #[.pointer (some ⟨b, 0, none⟩), .int .i64 i, B.val (.slice a n c)] w fun e w' => e = .returned (.int .i64 4) ∧ Below w.heap.size w w' := by
  have hl := fun w' (hb : Below w.heap.size w w') => len_any base b bn bd wv s w' (h.below hb)
  have HL := hid hl
  clear hl
  obtain ⟨h1, h2⟩ := has_in hi
  clear hi
  have h1' : ¬ i < 0 := by omega
  have h2' : ¬ (s.n : Int) ≤ i := by omega
  unfold Blk.val
  rw [hk, show ((0 : UInt8).toNat : Int) = 0 from rfl]
  go_enter Try.func12, Try.ntmps12
  go_wp2_with (go_at_call 37; refine (HL.out _ ((Below.refl _ _).alloc (Nat.le_refl _) _)).mono ?_; rintro e w' ⟨rfl, rfl⟩)
  go_ret
  exact ⟨rfl, (Below.refl _ _).alloc (Nat.le_refl _) _⟩

theorem put_row (w w1 : World) (o : Obj) (Z : Array Value) (l : List UInt8) (hb : Below (w.alloc o).heap.size (w.alloc o) w1) (hl : l.length = 128) :
    Below w.heap.size w ((w1.alloc (.cells Z 91)).setRow w1.heap.size (l.map bv).toArray) ∧ Rd ((w1.alloc (.cells Z 91)).setRow w1.heap.size (l.map bv).toArray) (.slice (some ⟨w1.heap.size, 0, none⟩) 128 128) l := by
  have hs : (w.alloc o).heap.size = w.heap.size + 1 := by
    show (w.heap.push o).size = _
    simp
  have h0 : Below w.heap.size w w1 := ((Below.refl _ _).alloc (Nat.le_refl _) o).trans (hb.mono (by omega))
  have h1 : Below w.heap.size w (w1.alloc (.cells Z 91)) := h0.alloc h0.size _
  have hg := setRow_heap (w1.alloc (.cells Z 91)) w1.heap.size Z (l.map bv).toArray _ _ (heap_alloc_new w1 _)
  refine ⟨h1.trans ⟨rfl, rfl, rfl, by simp [World.setRow], fun k hk => setRow_other _ _ k _ (by have := h0.size; omega)⟩, ?_⟩
  refine ⟨_, 128, by rw [hl], by omega, by unfold maxLen; omega, (fun h => by cases h), fun x hx j hj => ?_⟩
  cases hx
  rw [Addr.add_lit, Nat.zero_add, cell_of_row _ _ _ _ _ _ hg]
  simp [List.getD_eq_getElem?_getD, hj]

set_option maxRecDepth 100000 in
set_option maxHeartbeats 4000000 in
theorem put_any (base b bn bd : Nat) (wv : Value) (s : Sl) (i : Int) (B : Blk) (a : Option Addr) (c : Nat) (w : World) (h : SlabAt w base b bn bd wv s) (hst : s.steps ≤ 1000000) (hwy : s.way.length < 1000000) (hi : s.has i = true) (hn : B.data.length ≤ 104) (hk : B.kind ≠ 0)
    (hr : Rd w (.slice a B.data.length c) B.data) :
    Calls Try.prog 12 #[.pointer (some ⟨b, 0, none⟩), .int .i64 i, B.val (.slice a B.data.length c)] w fun e w' => ∃ v', e = .returned (.int .i64 (s.write i B.bytes).2) ∧ SlabAt w' base b bn bd v' (s.write i B.bytes).1 ∧ Keeps (SlabS b bn bd wv) w w' := by
  have hl := fun w' (hb : Below w.heap.size w w') => len_any base b bn bd wv s w' (h.below hb)
  have HL := hid hl
  clear hl
  have HT := hid (fun w' (hb : Below w.heap.size w w') => sector_any B (.slice a B.data.length c) w' (hr.below hb) (by omega))
  have HW := hid (fun w' v p (hb : Below w.heap.size w w') hp => write_all base b bn bd wv s i v p w' (h.below hb) hst hwy hp)
  have HBL := hid (B.bytes_length (by omega))
  have HSZ := hid (show (Try.prog.info? 91).map (·.size) = some ((B.bytes.map bv).toArray).size by
    have h0 : (Try.prog.info? 91).map (·.size) = some 128 := by kernel_rfl
    rw [h0, List.size_toArray, List.length_map, HBL.out])
  have HZ := hid (show Try.zeroCells91.size = ((B.bytes.map bv).toArray).size by
    have h0 : Try.zeroCells91.size = 128 := by kernel_rfl
    rw [h0, List.size_toArray, List.length_map, HBL.out])
  have HONE := hid (show ((B.bytes.map bv).toArray).all (·.oneCell') = true by
    rw [List.all_toArray, List.all_eq_true]
    intro v hv
    obtain ⟨z, _, rfl⟩ := List.mem_map.1 hv
    rfl)
  obtain ⟨h1, h2⟩ := has_in hi
  have HI := hid hi
  have HH := hid h
  have HR := hid hr
  clear hi h hr hst hwy
  have h1' : ¬ i < 0 := by omega
  have h2' : ¬ (s.n : Int) ≤ i := by omega
  have hk0 : ¬ (B.kind.toNat : Int) = 0 := fun e => hk (UInt8.toNat_inj.1 (show B.kind.toNat = 0 by omega))
  have hb0 : Below w.heap.size w (w.alloc (.cells #[.int .u8 (B.kind.toNat : Int), .int .u32 (B.epoch.toNat : Int), .int .u32 (B.a.toNat : Int), .int .u32 (B.b.toNat : Int), .slice a B.data.length c] 40)) := (Below.refl _ _).alloc (Nat.le_refl _) _
  unfold Blk.val
  go_enter Try.func12, Try.ntmps12
  go_wp2_with (first
    | (go_at_call 37; refine (HL.out _ ((Below.refl _ _).alloc (Nat.le_refl _) _)).mono ?_; rintro e w' ⟨rfl, rfl⟩)
    | (go_at_call 38; refine (HT.out _ hb0).mono ?_; rintro e w1 ⟨rfl, hb1⟩)
    | (refine wpList_store_row rfl 91 (.tmp 7) (.tmp 30) rfl w1.heap.size (List.map bv B.bytes).toArray rfl rfl 91 Try.zeroCells91 (heap_alloc_new w1 _) HSZ.out HZ.out HONE.out ?_)
    | (go_at_call 23; refine (HW.out _ _ B.bytes (put_row w w1 _ _ _ hb1 HBL.out).1 (put_row w w1 _ _ _ hb1 HBL.out).2).mono ?_; rintro e w' ⟨v', rfl, hs', hk'⟩)
    | fail)
  go_ret
  exact ⟨v', rfl, hs', (Keeps.of_below (put_row w w1 _ _ _ hb1 HBL.out).1 (fun k h1 h2 => by omega)).trans' hk' (fun k _ e => e)⟩

/-- PUT, WHOLE. -/
theorem put_all (base b bn bd : Nat) (wv : Value) (s : Sl) (i : Int) (B : Blk) (dv : Value) (w : World) (h : SlabAt w base b bn bd wv s) (hst : s.steps ≤ 1000000) (hwy : s.way.length < 1000000) (hr : Rd w dv B.data) :
    Calls Try.prog 12 #[.pointer (some ⟨b, 0, none⟩), .int .i64 i, B.val dv] w fun e w' => ∃ v', e = .returned (.int .i64 (s.putb i B).2) ∧ SlabAt w' base b bn bd v' (s.putb i B).1 ∧ Keeps (SlabS b bn bd wv) w w' := by
  have hlen := hr.len
  unfold maxLen at hlen
  obtain ⟨a, c, rfl⟩ := rd_slice hr
  have quiet : ∀ w', Below w.heap.size w w' → SlabAt w' base b bn bd wv s ∧ Keeps (SlabS b bn bd wv) w w' := fun w' hb => ⟨h.below hb, Keeps.of_below hb (fun k h1 h2 => by omega)⟩
  unfold Sl.putb
  by_cases h1 : s.has i = false
  · simp only [if_pos h1]
    refine (put_arg base b bn bd wv s i B a _ c w h h1).mono ?_
    rintro e w' ⟨rfl, hb⟩
    exact ⟨wv, rfl, quiet w' hb⟩
  · have h1' : s.has i = true := by simpa using h1
    simp only [if_neg h1]
    by_cases h2 : 104 < B.data.length
    · simp only [if_pos h2]
      refine (put_long base b bn bd wv s i B a _ c w h h1' h2 (by omega)).mono ?_
      rintro e w' ⟨rfl, hb⟩
      exact ⟨wv, rfl, quiet w' hb⟩
    · simp only [if_neg h2]
      by_cases h3 : B.kind = 0
      · simp only [if_pos h3]
        refine (put_form base b bn bd wv s i B a _ c w h h1' (by omega) h3).mono ?_
        rintro e w' ⟨rfl, hb⟩
        exact ⟨wv, rfl, quiet w' hb⟩
      · simp only [if_neg h3]
        exact put_any base b bn bd wv s i B a c w h hst hwy h1' (by omega) h3 hr

end Go.Proofs.Ytbagpckiegpalaa
