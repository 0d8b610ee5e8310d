/-
  Layer 6: roots: their places, what is one, Store.
-/
import Derived.Test.YtbagpckiegpalaaRfFc
namespace Go.Proofs.Ytbagpckiegpalaa
open Go.RowKit
set_option linter.unusedVariables false
set_option linter.unusedSimpArgs false

/-- A root. -/
structure Rt where
  turn : BitVec 32
  epoch : BitVec 32
  gen : BitVec 32
  area : UInt8
def Rt.zero : Rt := ⟨0#32, 0#32, 0#32, 0⟩
def Rt.val (r : Rt) : Value := .agg #[.int .u32 (r.turn.toNat : Int), .int .u32 (r.epoch.toNat : Int), .int .u32 (r.gen.toNat : Int), .int .u8 (r.area.toNat : Int)]
def Rt.blk (r : Rt) : Blk := ⟨1, r.epoch, r.turn, r.gen, [r.area]⟩
def Blk.rt (B : Blk) : Rt := ⟨B.a, B.epoch, B.b, B.data.getD 0 0⟩
def Blk.isRoot (B : Blk) (i : Nat) : Bool := decide (B.kind = 1) && (decide (B.data.length = 1) && (decide ((B.data.getD 0 0).toNat < 2) && decide (B.a.toNat % 2 = i)))
theorem rt_blk (r : Rt) : r.blk.rt = r := rfl

abbrev slabTs : List TypeId := [86, 98, 100]
theorem slab_KT {w w' : World} {base b bn bd : Nat} {wv : Value} {s : Sl} (h : SlabAt w base b bn bd wv s) (hk : Keeps (SlabS b bn bd wv) w w') : KT slabTs base w w' := by
  refine KT.of_keeps hk (fun k _ hS => ⟨h.low k hS, ?_⟩) h.size.2.2.2
  rcases hS with rfl | rfl | rfl | e
  · exact ⟨_, _, _, h.1, by simp⟩
  · exact ⟨_, _, _, h.2.1, by simp⟩
  · exact ⟨_, _, _, h.2.2.1, by simp⟩
  · obtain ⟨cur, hc⟩ := h.2.2.2.1.type k e
    exact ⟨_, _, _, hc, by simp⟩

/-- Store over a slab's plain state. -/
def Sl.storeb (s : Sl) (r : Rt) : Sl × Int :=
  if 2 ≤ r.area.toNat then (s, 4) else if (s.putb (r.turn.toNat % 2 : Nat) r.blk).2 = 0 then (s.putb (r.turn.toNat % 2 : Nat) r.blk).1.flushed else s.putb (r.turn.toNat % 2 : Nat) r.blk

set_option maxHeartbeats 1000000 in
theorem rootsector_any (tn : Nat) (w : World) (h : tn < 4294967296) : Calls Try.prog 42 #[.int .u32 (tn : Int)] w fun e w' => e = .returned (.int .i64 ((tn % 2 : Nat) : Int)) ∧ w = w' := by
  obtain ⟨m, hm⟩ : ∃ m, m = tn % 2 := ⟨_, rfl⟩
  have h1 : (tn : Int) % 2 = (m : Int) := by omega
  have h2 : (tn : Int).tmod 2 = (m : Int) := by rw [Int.tmod_eq_emod_of_nonneg (by omega)]; exact h1
  have h3 : m < 2 := by omega
  rw [← hm]
  have h4 : IntKind.i64.wrap (m : Int) = (m : Int) := IntWalk.i64_in _ (by omega)
  clear hm h h3
  go_enter Try.func42, Try.ntmps42
  go_wp2
  go_ret
  refine ⟨?_, rfl⟩
  refine ret_int ?_
  first | exact h1 | exact h2 | omega

theorem slab_steps {s : Sl} (i : Int) (B : Blk) : (s.putb i B).1.steps ≤ s.steps + 1 ∧ (s.putb i B).1.way.length ≤ s.way.length + 1 := by
  unfold Sl.putb
  split
  · exact ⟨Nat.le_succ _, Nat.le_succ _⟩
  · split
    · exact ⟨Nat.le_succ _, Nat.le_succ _⟩
    · split
      · exact ⟨Nat.le_succ _, Nat.le_succ _⟩
      · exact s.write_steps i B.bytes

set_option maxHeartbeats 1000000 in
theorem store_form (r : Rt) (b : Nat) (w : World) (ha : 2 ≤ r.area.toNat) :
    Calls Try.prog 17 #[.pointer (some ⟨b, 0, none⟩), r.val] w fun e w' => e = .returned (.int .i64 4) ∧ Below w.heap.size w w' := by
  obtain ⟨an, han⟩ : ∃ k, k = r.area.toNat := ⟨_, rfl⟩
  unfold Rt.val
  rw [← han] at ha ⊢
  have h2 : decide ((an : Int) ≥ 2) = true := decide_eq_true (by omega)
  go_enter Try.func17, Try.ntmps17
  go_wp2
  go_ret
  exact ⟨rfl, (Below.refl _ _).alloc (Nat.le_refl _) _⟩

set_option maxRecDepth 100000 in
set_option maxHeartbeats 4000000 in
theorem store_any (base b bn bd : Nat) (wv : Value) (s : Sl) (r : Rt) (w0 : World) (h : SlabAt w0 base b bn bd wv s) (hst : s.steps ≤ 999990) (hwy : s.way.length < 999990) (har : r.area.toNat < 2) :
    Calls Try.prog 17 #[.pointer (some ⟨b, 0, none⟩), r.val] w0 fun e w' => ∃ v', e = .returned (.int .i64 (s.storeb r).2) ∧ SlabAt w' base b bn bd v' (s.storeb r).1 ∧ KT slabTs base w0 w' := by
  obtain ⟨tn, htn⟩ : ∃ k, k = r.turn.toNat := ⟨_, rfl⟩
  obtain ⟨en, hen⟩ : ∃ k, k = r.epoch.toNat := ⟨_, rfl⟩
  obtain ⟨gn, hgn⟩ : ∃ k, k = r.gen.toNat := ⟨_, rfl⟩
  obtain ⟨an, han⟩ : ∃ k, k = r.area.toNat := ⟨_, rfl⟩
  have HTL := hid (show tn < 4294967296 by rw [htn]; exact r.turn.isLt)
  obtain ⟨tm, htm⟩ : ∃ k, k = tn % 2 := ⟨_, rfl⟩
  have HTM := hid htm
  unfold Rt.val
  rw [← htn, ← hen, ← hgn, ← han]
  have h2 : decide ((an : Int) ≥ 2) = false := decide_eq_false (by omega)
  obtain ⟨p, hp⟩ : ∃ p, p = s.putb (tm : Int) r.blk := ⟨_, rfl⟩
  obtain ⟨s1, er⟩ := p
  have hst1 := slab_steps (s := s) (tm : Int) r.blk
  rw [← hp] at hst1
  have HST1 := hid (show s1.steps ≤ 1000000 ∧ s1.way.length < 1000000 by have := hst1.1; have := hst1.2; dsimp only at *; omega)
  have HPB := hid (show s.putb ((r.turn.toNat % 2 : Nat) : Int) r.blk = (s1, er) by rw [← htn, ← htm]; exact hp.symm)
  have HP := hid hp
  have HSW := hid (show s.steps ≤ 1000000 ∧ s.way.length < 1000000 by omega)
  have HAR := hid har
  have hlb : base ≤ w0.heap.size := h.size.2.2.2
  obtain ⟨g3, hg3⟩ : ∃ g, g = w0.heap.size := ⟨_, rfl⟩
  obtain ⟨w1, hw1⟩ : ∃ z, z = w0.alloc (.cells #[.int .u32 (tn : Int), .int .u32 (en : Int), .int .u32 (gn : Int), .int .u8 (an : Int)] 48) := ⟨_, rfl⟩
  have hb1 : Below w0.heap.size w0 w1 := by rw [hw1]; exact (Below.refl _ _).alloc (Nat.le_refl _) _
  have hg1 : w1.heap[g3]? = some (.cells #[.int .u32 (tn : Int), .int .u32 (en : Int), .int .u32 (gn : Int), .int .u8 (an : Int)] 48 (0, 0)) := by rw [hw1, hg3]; exact heap_alloc_new _ _
  obtain ⟨⟨m0, m1, m2, m3⟩, -⟩ : (w1.cell? ⟨g3, 0, none⟩ = some (.int .u32 (tn : Int)) ∧ w1.cell? ⟨g3, 1, none⟩ = some (.int .u32 (en : Int)) ∧ w1.cell? ⟨g3, 2, none⟩ = some (.int .u32 (gn : Int)) ∧ w1.cell? ⟨g3, 3, none⟩ = some (.int .u8 (an : Int))) ∧ True :=
    ⟨⟨(cell_of_row w1 _ _ _ _ _ hg1).trans rfl, (cell_of_row w1 _ _ _ _ _ hg1).trans rfl, (cell_of_row w1 _ _ _ _ _ hg1).trans rfl, (cell_of_row w1 _ _ _ _ _ hg1).trans rfl⟩, trivial⟩
  have H0 := hid h
  have HB1 := hid hb1
  have HG1 := hid hg1
  have HQ1 := hid hw1
  have HQ3 := hid hg3
  have HLB := hid hlb
  have HAN := hid han
  have HEN := hid hen
  have HTN := hid htn
  have HGN := hid hgn
  clear h hst hwy har htn hen hgn han htm hp hst1 hlb hw1 hb1 hg1 hg3
  go_enter Try.func17, Try.ntmps17
  go_upto_region 1 with fail
  rw [← HQ3.out, ← HQ1.out]
  go_upto_region 6 with fail
  obtain ⟨w5, hw5⟩ : ∃ z, z = (w1.alloc (.cells #[.int .u8 (an : Int)] 5)).alloc (.cells #[.int .u8 1, .int .u32 (en : Int), .int .u32 (tn : Int), .int .u32 (gn : Int), .slice (some ⟨w1.heap.size, 0, none⟩) 1 1] 40) := ⟨_, rfl⟩
  rw [← hw5]
  obtain ⟨g4, hg4⟩ : ∃ g, g = w1.heap.size + 1 := ⟨_, rfl⟩
  obtain ⟨g5, hg5⟩ : ∃ g, g = w1.heap.size := ⟨_, rfl⟩
  rw [← hg4, ← hg5]
  have hs5 : (w1.alloc (.cells #[.int .u8 (an : Int)] 5)).heap.size = g4 := by rw [hg4]; simp
  have hb5a : Below w1.heap.size w1 (w1.alloc (.cells #[.int .u8 (an : Int)] 5)) := (Below.refl _ _).alloc (Nat.le_refl _) _
  have hb5b : Below (w1.alloc (.cells #[.int .u8 (an : Int)] 5)).heap.size (w1.alloc (.cells #[.int .u8 (an : Int)] 5)) w5 := by rw [hw5]; exact (Below.refl _ _).alloc (Nat.le_refl _) _
  have hb5 := hb5a.trans (hb5b.mono hb5a.size)
  have HG4 := hid (show w5.heap[g4]? = some (.cells #[.int .u8 1, .int .u32 (en : Int), .int .u32 (tn : Int), .int .u32 (gn : Int), .slice (some ⟨g5, 0, none⟩) 1 1] 40 (0, 0)) by rw [hw5, hg5, ← hs5]; exact heap_alloc_new _ _)
  have HG4L := hid (Array.getElem?_eq_some_iff.1 HG4.out).1
  have HG3 := hid ((hb5.block _ (Array.getElem?_eq_some_iff.1 HG1.out).1).trans HG1.out)
  have HG3L := hid (Array.getElem?_eq_some_iff.1 HG3.out).1
  have HRD := hid (show Rd w5 (.slice (some ⟨g5, 0, none⟩) 1 1) [r.area] by
    rw [hg5]
    exact (Rd.lit w1 #[.int .u8 (an : Int)] (0, 0) [r.area] 1 rfl (by rw [HAN.out]; rfl) (by unfold maxLen; simp)).below hb5b)
  have HB5 := hid (HB1.out.trans (hb5.mono HB1.out.size))
  have HBS := hid (show base ≤ w5.heap.size from Nat.le_trans HLB.out HB5.out.size)
  have HKI := hid (KT.of_below (ts := slabTs) HB5.out HLB.out)
  have HRS := hid (fun W => show Calls Try.prog 42 #[.int .u32 (tn : Int)] W (fun e w' => e = .returned (.int .i64 (tm : Int)) ∧ W = w') from by rw [HTM.out]; exact rootsector_any tn W HTL.out)
  have HPUT := hid (fun W (hW : Below w5.heap.size w5 W) => show Calls Try.prog 12 #[.pointer (some ⟨b, 0, none⟩), .int .i64 (tm : Int), .agg #[.int .u8 1, .int .u32 (en : Int), .int .u32 (tn : Int), .int .u32 (gn : Int), .slice (some ⟨g5, 0, none⟩) 1 1]] W (fun e w' => ∃ v', e = .returned (.int .i64 er) ∧ SlabAt w' base b bn bd v' s1 ∧ KT slabTs base W w') from by
    have hWB := HB5.out.trans (hW.mono HB5.out.size)
    have hS := H0.out.below hWB
    have h := put_all base b bn bd wv s (tm : Int) r.blk (.slice (some ⟨g5, 0, none⟩) 1 1) W hS HSW.out.1 HSW.out.2 (HRD.out.below hW)
    rw [← HP.out] at h
    unfold Blk.val at h
    rw [show ((r.blk.kind.toNat : Nat) : Int) = 1 from rfl, show r.blk.epoch.toNat = en from HEN.out.symm, show r.blk.a.toNat = tn from HTN.out.symm, show r.blk.b.toNat = gn from HGN.out.symm] at h
    refine h.mono ?_
    rintro e w' ⟨v', rfl, hs', hk'⟩
    exact ⟨v', rfl, hs', slab_KT hS hk'⟩)
  clear hw5 hg4 hg5 hs5 hb5a hb5b hb5 m0 m1 m2 m3 h2
  refine Orders.begins (C := []) (by kernel_rfl) ?_
  refine Orders.inv_at (I := fun L A a w => ∃ (b0 b1 b2 b3 b4 b5 b6 : Bool) (v22 v23 v24 v25 v26 v27 v6 : Value), L = #[b0, b1, b2, b3, b4, b5, b6] ∧ a = (((((((A.put (some 22) v22).put (some 23) v23).put (some 24) v24).put (some 25) v25).put (some 26) v26).put (some 27) v27).put (some 6) v6) ∧ (b5 = false → Below w5.heap.size w5 w) ∧ (b2 = true → b1 = true) ∧ (b3 = true → b2 = true) ∧ (b5 = true → b0 = true ∧ b3 = true ∧ b4 = true) ∧ (b6 = true → b5 = true) ∧ (b0 = true → v22 = .pointer (some ⟨b, 0, none⟩)) ∧ (b1 = true → v23 = .pointer (some ⟨g3, 0, none⟩)) ∧ (b2 = true → v24 = .int .u32 (tn : Int)) ∧ (b3 = true → v25 = .int .i64 (tm : Int)) ∧ (b4 = true → v26 = .agg #[.int .u8 1, .int .u32 (en : Int), .int .u32 (tn : Int), .int .u32 (gn : Int), .slice (some ⟨g5, 0, none⟩) 1 1]) ∧ (b5 = true → (∃ v', v27 = .int .i64 er ∧ SlabAt w base b bn bd v' s1 ∧ KT slabTs base w5 w)) ∧ (b6 = true → v6 = .int .i64 er)) ?start ?step ?fin (by kernel_rfl)
  case start => exact ⟨false, false, false, false, false, false, false, undef, undef, undef, undef, undef, undef, undef, rfl, by simp only [Act.put, List.getElem_toArray, List.getElem_cons_succ, List.getElem_cons_zero, List.setIfInBounds_toArray, List.set_cons_zero, List.set_cons_succ], (fun _ => below_drw (Below.refl _ _)), (fun h => Bool.noConfusion h), (fun h => Bool.noConfusion h), (fun h => Bool.noConfusion h), (fun h => Bool.noConfusion h), (fun h => Bool.noConfusion h), (fun h => Bool.noConfusion h), (fun h => Bool.noConfusion h), (fun h => Bool.noConfusion h), (fun h => Bool.noConfusion h), (fun h => Bool.noConfusion h), (fun h => Bool.noConfusion h)⟩
  case step =>
    rintro L a w' i ⟨b0, b1, b2, b3, b4, b5, b6, v22, v23, v24, v25, v26, v27, v6, rfl, rfl, HW, D2, D3, D5, D6, C0, C1, C2, C3, C4, C5, C6⟩ hi
    obtain ⟨hlt, hu, hn⟩ := ready_has [[], [], [1], [2], [], [0, 3, 4], [0, 1, 2, 3, 4, 5]] (by kernel_rfl) (by kernel_rfl) hi
    clear hi
    have hc : i = 0 ∨ i = 1 ∨ i = 2 ∨ i = 3 ∨ i = 4 ∨ i = 5 ∨ i = 6 := (show ∀ i, i < 7 → (i = 0 ∨ i = 1 ∨ i = 2 ∨ i = 3 ∨ i = 4 ∨ i = 5 ∨ i = 6) by decide) i hlt
    clear hlt
    rcases hc with rfl | rfl | rfl | rfl | rfl | rfl | rfl
    · obtain rfl : b0 = false := hu
      clear hn
      refine wpOp_shut rfl (fun K' hK => ?_)
      simp only [Act.put, List.getElem_toArray, List.getElem_cons_succ, List.getElem_cons_zero, List.setIfInBounds_toArray, List.set_cons_zero, List.set_cons_succ]
      obtain rfl : b5 = false := by
        cases b5 with
        | false => rfl
        | true => exact absurd ((D5 rfl).1) (by simp)
      go_simp
      refine hK.out _ _ ⟨true, b1, b2, b3, b4, false, b6, (.pointer (some ⟨b, 0, none⟩)), v23, v24, v25, v26, v27, v6, rfl, by simp only [Act.put, List.getElem_toArray, List.getElem_cons_succ, List.getElem_cons_zero, List.setIfInBounds_toArray, List.set_cons_zero, List.set_cons_succ], HW, D2, D3, (fun h => Bool.noConfusion h), D6, (fun _ => rfl), C1, C2, C3, C4, C5, C6⟩
    · obtain rfl : b1 = false := hu
      clear hn
      refine wpOp_shut rfl (fun K' hK => ?_)
      simp only [Act.put, List.getElem_toArray, List.getElem_cons_succ, List.getElem_cons_zero, List.setIfInBounds_toArray, List.set_cons_zero, List.set_cons_succ]
      obtain rfl : b5 = false := by
        cases b5 with
        | false => rfl
        | true => exact absurd (D2 (D3 (D5 rfl).2.1)) (by simp)
      go_simp
      refine hK.out _ _ ⟨b0, true, b2, b3, b4, false, b6, v22, (.pointer (some ⟨g3, 0, none⟩)), v24, v25, v26, v27, v6, rfl, by simp only [Act.put, List.getElem_toArray, List.getElem_cons_succ, List.getElem_cons_zero, List.setIfInBounds_toArray, List.set_cons_zero, List.set_cons_succ], HW, (fun h => absurd (D2 h) (by simp)), D3, (fun h => Bool.noConfusion h), D6, C0, (fun _ => rfl), C2, C3, C4, C5, C6⟩
    · obtain rfl : b2 = false := hu
      obtain rfl : b1 = true := hn 1 (by decide)
      clear hn
      refine wpOp_shut rfl (fun K' hK => ?_)
      simp only [Act.put, List.getElem_toArray, List.getElem_cons_succ, List.getElem_cons_zero, List.setIfInBounds_toArray, List.set_cons_zero, List.set_cons_succ]
      obtain rfl : b5 = false := by
        cases b5 with
        | false => rfl
        | true => exact absurd ((D3 (D5 rfl).2.1)) (by simp)
      have hC1 := (C1 rfl).symm
      subst hC1
      have e0 : w'.cell? ⟨g3, 0, none⟩ = some (.int .u32 (tn : Int)) := (cell_of_row w' _ _ _ _ _ (((HW rfl).block _ HG3L.out).trans HG3.out)).trans rfl
      go_simp
      refine hK.out _ _ ⟨b0, true, true, b3, b4, false, b6, v22, (.pointer (some ⟨g3, 0, none⟩)), (.int .u32 (tn : Int)), v25, v26, v27, v6, rfl, by simp only [Act.put, List.getElem_toArray, List.getElem_cons_succ, List.getElem_cons_zero, List.setIfInBounds_toArray, List.set_cons_zero, List.set_cons_succ], HW, (fun _ => rfl), (fun h => absurd (D3 h) (by simp)), (fun h => Bool.noConfusion h), D6, C0, C1, (fun _ => rfl), C3, C4, C5, C6⟩
    · obtain rfl : b3 = false := hu
      obtain rfl : b2 = true := hn 2 (by decide)
      clear hn
      refine wpOp_shut rfl (fun K' hK => ?_)
      simp only [Act.put, List.getElem_toArray, List.getElem_cons_succ, List.getElem_cons_zero, List.setIfInBounds_toArray, List.set_cons_zero, List.set_cons_succ]
      obtain rfl : b5 = false := by
        cases b5 with
        | false => rfl
        | true => exact absurd ((D5 rfl).2.1) (by simp)
      have hC2 := (C2 rfl).symm
      subst hC2
      have hC1 := (C1 (D2 rfl)).symm
      subst hC1
      go_simp
      refine (HRS.out w').mono ?_
      rintro e w2 ⟨rfl, rfl⟩
      refine hK.out _ _ ⟨b0, b1, true, true, b4, false, b6, v22, (.pointer (some ⟨g3, 0, none⟩)), (.int .u32 (tn : Int)), (.int .i64 (tm : Int)), v26, v27, v6, rfl, by simp only [Act.put, List.getElem_toArray, List.getElem_cons_succ, List.getElem_cons_zero, List.setIfInBounds_toArray, List.set_cons_zero, List.set_cons_succ], HW, D2, (fun _ => rfl), (fun h => Bool.noConfusion h), D6, C0, C1, C2, (fun _ => rfl), C4, C5, C6⟩
    · obtain rfl : b4 = false := hu
      clear hn
      refine wpOp_shut rfl (fun K' hK => ?_)
      simp only [Act.put, List.getElem_toArray, List.getElem_cons_succ, List.getElem_cons_zero, List.setIfInBounds_toArray, List.set_cons_zero, List.set_cons_succ]
      obtain rfl : b5 = false := by
        cases b5 with
        | false => rfl
        | true => exact absurd ((D5 rfl).2.2) (by simp)
      have e0 : w'.cell? ⟨g4, 0, none⟩ = some (.int .u8 1) := (cell_of_row w' _ _ _ _ _ (((HW rfl).block _ HG4L.out).trans HG4.out)).trans rfl
      have e1 : w'.cell? ⟨g4, 1, none⟩ = some (.int .u32 (en : Int)) := (cell_of_row w' _ _ _ _ _ (((HW rfl).block _ HG4L.out).trans HG4.out)).trans rfl
      have e2 : w'.cell? ⟨g4, 2, none⟩ = some (.int .u32 (tn : Int)) := (cell_of_row w' _ _ _ _ _ (((HW rfl).block _ HG4L.out).trans HG4.out)).trans rfl
      have e3 : w'.cell? ⟨g4, 3, none⟩ = some (.int .u32 (gn : Int)) := (cell_of_row w' _ _ _ _ _ (((HW rfl).block _ HG4L.out).trans HG4.out)).trans rfl
      have e4 : w'.cell? ⟨g4, 4, none⟩ = some (.slice (some ⟨g5, 0, none⟩) 1 1) := (cell_of_row w' _ _ _ _ _ (((HW rfl).block _ HG4L.out).trans HG4.out)).trans rfl
      go_simp
      refine hK.out _ _ ⟨b0, b1, b2, b3, true, false, b6, v22, v23, v24, v25, (.agg #[.int .u8 1, .int .u32 (en : Int), .int .u32 (tn : Int), .int .u32 (gn : Int), .slice (some ⟨g5, 0, none⟩) 1 1]), v27, v6, rfl, by simp only [Act.put, List.getElem_toArray, List.getElem_cons_succ, List.getElem_cons_zero, List.setIfInBounds_toArray, List.set_cons_zero, List.set_cons_succ], HW, D2, D3, (fun h => Bool.noConfusion h), D6, C0, C1, C2, C3, (fun _ => rfl), C5, C6⟩
    · obtain rfl : b5 = false := hu
      obtain rfl : b0 = true := hn 0 (by decide)
      obtain rfl : b3 = true := hn 3 (by decide)
      obtain rfl : b4 = true := hn 4 (by decide)
      clear hn
      refine wpOp_shut rfl (fun K' hK => ?_)
      simp only [Act.put, List.getElem_toArray, List.getElem_cons_succ, List.getElem_cons_zero, List.setIfInBounds_toArray, List.set_cons_zero, List.set_cons_succ]
      have hC0 := (C0 rfl).symm
      subst hC0
      have hC3 := (C3 rfl).symm
      subst hC3
      have hC4 := (C4 rfl).symm
      subst hC4
      have hC2 := (C2 (D3 rfl)).symm
      subst hC2
      have hC1 := (C1 (D2 (D3 rfl))).symm
      subst hC1
      go_simp
      refine (HPUT.out w' (HW rfl)).mono ?_
      rintro e w2 ⟨v', rfl, hs', hk'⟩
      refine hK.out _ _ ⟨true, b1, b2, true, true, true, b6, (.pointer (some ⟨b, 0, none⟩)), (.pointer (some ⟨g3, 0, none⟩)), (.int .u32 (tn : Int)), (.int .i64 (tm : Int)), (.agg #[.int .u8 1, .int .u32 (en : Int), .int .u32 (tn : Int), .int .u32 (gn : Int), .slice (some ⟨g5, 0, none⟩) 1 1]), (.int .i64 er), v6, rfl, by simp only [Act.put, List.getElem_toArray, List.getElem_cons_succ, List.getElem_cons_zero, List.setIfInBounds_toArray, List.set_cons_zero, List.set_cons_succ], (fun h => Bool.noConfusion h), D2, D3, (fun _ => ⟨rfl, rfl, rfl⟩), (fun h => absurd (D6 h) (by simp)), C0, C1, C2, C3, C4, (fun _ => ⟨v', rfl, hs', (KT.of_below (HW rfl) HBS.out).trans hk'⟩), (fun h => absurd (D6 h) (by simp))⟩
    · obtain rfl : b6 = false := hu
      obtain rfl : b0 = true := hn 0 (by decide)
      obtain rfl : b1 = true := hn 1 (by decide)
      obtain rfl : b2 = true := hn 2 (by decide)
      obtain rfl : b3 = true := hn 3 (by decide)
      obtain rfl : b4 = true := hn 4 (by decide)
      obtain rfl : b5 = true := hn 5 (by decide)
      clear hn
      refine wpOp_shut rfl (fun K' hK => ?_)
      simp only [Act.put, List.getElem_toArray, List.getElem_cons_succ, List.getElem_cons_zero, List.setIfInBounds_toArray, List.set_cons_zero, List.set_cons_succ]
      have hC0 := (C0 rfl).symm
      subst hC0
      have hC1 := (C1 rfl).symm
      subst hC1
      have hC2 := (C2 rfl).symm
      subst hC2
      have hC3 := (C3 rfl).symm
      subst hC3
      have hC4 := (C4 rfl).symm
      subst hC4
      obtain ⟨v', rfl, hs', hk'⟩ := C5 rfl
      go_simp
      refine hK.out _ _ ⟨true, true, true, true, true, true, true, (.pointer (some ⟨b, 0, none⟩)), (.pointer (some ⟨g3, 0, none⟩)), (.int .u32 (tn : Int)), (.int .i64 (tm : Int)), (.agg #[.int .u8 1, .int .u32 (en : Int), .int .u32 (tn : Int), .int .u32 (gn : Int), .slice (some ⟨g5, 0, none⟩) 1 1]), (.int .i64 er), (.int .i64 er), rfl, by simp only [Act.put, List.getElem_toArray, List.getElem_cons_succ, List.getElem_cons_zero, List.setIfInBounds_toArray, List.set_cons_zero, List.set_cons_succ], HW, D2, D3, D5, (fun _ => rfl), C0, C1, C2, C3, C4, (fun _ => ⟨v', rfl, hs', hk'⟩), (fun _ => rfl)⟩
  case fin =>
    rintro L a w' ⟨b0, b1, b2, b3, b4, b5, b6, v22, v23, v24, v25, v26, v27, v6, rfl, rfl, HW, D2, D3, D5, D6, C0, C1, C2, C3, C4, C5, C6⟩ hr
    have hz : b0 = true ∧ b1 = true ∧ b2 = true ∧ b3 = true ∧ b4 = true ∧ b5 = true ∧ b6 = true := by
      have h := ready_done (by kernel_rfl) (by kernel_rfl) hr
      simpa only [List.all_cons, List.all_nil, id, Bool.and_true, Bool.and_eq_true] using h
    obtain ⟨rfl, rfl, rfl, rfl, rfl, rfl, rfl⟩ := hz
    clear hr
    simp only [Act.put, List.getElem_toArray, List.getElem_cons_succ, List.getElem_cons_zero, List.setIfInBounds_toArray, List.set_cons_zero, List.set_cons_succ]
    obtain ⟨v', e27, hs', hk'⟩ := C5 rfl
    have hC6 := (C6 rfl).symm
    subst hC6
    clear C0 C1 C2 C3 C4 C5 C6 D2 D3 D5 D6 HW
    obtain ⟨w6, hw6⟩ : ∃ z, z = w' := ⟨_, rfl⟩
    rw [← hw6] at hs' hk' ⊢
    clear hw6
    have HS6 := hid hs'
    have HK6 := hid hk'
    clear hs' hk'
    by_cases he : er = 0
    · have heb : (er != 0) = false := by simp [he]
      have HFL := hid (flush_all base b bn bd v' s1 w6 HS6.out (by have := HST1.out; omega))
      have HE := hid (show s.storeb r = s1.flushed by unfold Sl.storeb; rw [if_neg (by have := HAR.out; omega), HPB.out, if_pos he])
      rw [← HE.out] at HFL
      clear he
      go_wp2_with (first
        | (go_at_call 21; refine (HFL.out).mono ?_; rintro e w7 ⟨v7, rfl, h7, hk7⟩)
        | fail)
      go_ret
      exact ⟨v7, rfl, h7, (HKI.out.trans HK6.out).trans (slab_KT HS6.out hk7)⟩
    · have heb : (er != 0) = true := by simpa using he
      have HE := hid (show s.storeb r = (s1, er) by unfold Sl.storeb; rw [if_neg (by have := HAR.out; omega), HPB.out, if_neg he])
      clear he
      go_wp2_with fail
      go_ret
      rw [HE.out]
      exact ⟨v', rfl, HS6.out, HKI.out.trans HK6.out⟩

end Go.Proofs.Ytbagpckiegpalaa
