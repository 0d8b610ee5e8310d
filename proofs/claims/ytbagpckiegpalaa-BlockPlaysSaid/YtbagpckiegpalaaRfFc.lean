/-
  Layer 6, the document's: a sector's bytes, read.
-/
import Derived.Test.YtbagpckiegpalaaRfFb
namespace Go.Proofs.Ytbagpckiegpalaa
open Go.RowKit
set_option linter.unusedVariables false
set_option linter.unusedSimpArgs false

theorem num_le (l : List UInt8) (h : l.length = 4) (s : BitVec 32) : Knot.num l 4 = s ↔ l = Knot.le32 s := by
  constructor
  · intro e
    subst e
    apply List.ext_getElem?
    intro j
    by_cases hj : j < 4
    · have hb := Knot.byteOf_val (Knot.num l 4) j
      rw [num_sum] at hb
      have e1 : (Knot.le32 (Knot.num l 4))[j]? = some (Knot.byteOf (Knot.num l 4) j) := by
        match j, hj with
        | 0, _ => rfl
        | 1, _ => rfl
        | 2, _ => rfl
        | 3, _ => rfl
      rw [e1, List.getElem?_eq_getElem (by omega)]
      congr 1
      apply UInt8.toNat_inj.1
      have b0 := (l.getD 0 0).toNat_lt
      have b1 := (l.getD 1 0).toNat_lt
      have b2 := (l.getD 2 0).toNat_lt
      have b3 := (l.getD 3 0).toNat_lt
      have eg : l[j] = l.getD j 0 := by simp [List.getD_eq_getElem?_getD, List.getElem?_eq_getElem (show j < l.length by omega)]
      rw [eg]
      obtain rfl | rfl | rfl | rfl : j = 0 ∨ j = 1 ∨ j = 2 ∨ j = 3 := by omega
      · omega
      · omega
      · omega
      · omega
    · rw [List.getElem?_eq_none (by omega), List.getElem?_eq_none (by unfold Knot.le32; simp; omega)]
  · intro e
    rw [e, Knot.num_le32]

set_option maxRecDepth 100000 in
set_option maxHeartbeats 8000000 in
theorem refread_any (u0 : World) (v : Value) (p : List UInt8) (h : Rd u0 v p) (hl : p.length = 128) :
    Calls Try.prog 30 #[v] u0 fun e w' => ∃ dv, e = .returned (.tuple #[(said p).2.val dv, .int .i64 (said p).1]) ∧ Own w' u0.heap.size dv (said p).2.data ∧ Below u0.heap.size u0 w' := by
  have HR := hid h
  obtain ⟨b, off, cap, rfl, h1, h2, hb, hc⟩ := h.pos (by omega)
  rw [hl] at h1 ⊢ HR
  unfold maxLen at h2
  have HL := hid hl
  have HCC := hid h2
  have hcap : (128 : Int) ≤ (cap : Int) := by omega
  have hcap4 : (124 : Int) ≤ (cap : Int) := by omega
  have hcn1 : ¬ cap = 124 := by omega
  have hcn2 : ¬ cap = 14 := by omega
  have HPT := hid (fun (W : World) (hW : Below u0.heap.size u0 W) (i n : Nat) (hin : i + n ≤ 128) => show Rd W (.slice (some ⟨b, off + i, none⟩) n (cap - i)) ((p.drop i).take n) from
    Rd.part (by rw [hl]; exact h1) (by omega) (fun j hj => (hW.cell (p := ⟨b, off + j, none⟩) hb).trans (hc j hj)) i n (off + i) (cap - i) (by rw [hl]; exact hin) rfl rfl)
  have HCL := hid (fun (W : World) (hW : Below u0.heap.size u0 W) (j : Nat) (hj : j < 128) => (hW.cell (p := ⟨b, off + j, none⟩) hb).trans (hc j (by rw [hl]; exact hj)))
  obtain ⟨w1, hw1⟩ : ∃ z, z = u0.alloc (.cells #[.int .u8 0, .int .u32 0, .int .u32 0, .int .u32 0, .slice none 0 0] 34) := ⟨_, rfl⟩
  have HW1 := hid (show Below u0.heap.size u0 w1 by rw [hw1]; exact (Below.refl _ _).alloc (Nat.le_refl _) _)
  have HA1 := hid (show w1.heap[u0.heap.size]? = some (.cells #[.int .u8 0, .int .u32 0, .int .u32 0, .int .u32 0, .slice none 0 0] 34 (0, 0)) by rw [hw1]; exact heap_alloc_new _ _)
  have HGL := hid (Array.getElem?_eq_some_iff.1 HA1.out).1
  have HQ1 := hid hw1
  have HZ5 := hid (show (Try.prog.info? 34).map (·.size) = some 5 by kernel_rfl)
  clear h h1 h2 hb hc hl hw1
  go_enter Try.func30, Try.ntmps30
  go_upto_region 1 with fail
  rw [← HQ1.out]
  by_cases hz : p = zeros 128
  · have hzb : (p == zeros 128) = true := by simpa using hz
    have HE := hid (show said p = (6, Blk.zero) by unfold said; rw [if_pos (show p = List.replicate 128 0 from hz)])
    clear hz
    go_wp2_with (first
      | (at_make; go_must (refine mkfull rfl (.const (.int .i64 128)) (.const (.int .i64 128)) rfl w1.heap.size _ _ _ _ 128 rfl rfl rfl rfl (by omega) (Nat.le_refl _) ?_); intro w2 hown2 hb2; have HW2 := hid (HW1.out.trans (hb2.mono HW1.out.size)); have HA2 := hid ((hb2.block _ HGL.out).trans HA1.out); have HOZ := hid hown2.rd; clear hown2 hb2; obtain ⟨⟨m0, m1, m2, m3, m4⟩, f0, f1, f2, f3, f4⟩ := zero5 HA2.out)
      | (go_at_call 29; refine (same_any _ _ p (zeros 128) _ (HR.out.below HW2.out) HOZ.out).mono ?_; rintro e w' ⟨rfl, rfl⟩; rw [hzb])
      | fail)
    refine bodyPost_ret (results_cellS rfl _ _ _ u0.heap.size 34 _ (0, 0) _ rfl rfl (set5_heap HA2.out) Try.underlying34 HZ5.out) rfl ?_
    exact ⟨.slice none 0 0, by rw [HE.out]; rfl, by rw [HE.out]; exact Own.nil _ _, set5_below HW2.out (Nat.le_refl _)⟩
  · have hzb : (p == zeros 128) = false := by simpa using hz
    go_upto_region 3 with (first
      | (at_make; go_must (refine mkfull rfl (.const (.int .i64 128)) (.const (.int .i64 128)) rfl w1.heap.size _ _ _ _ 128 rfl rfl rfl rfl (by omega) (Nat.le_refl _) ?_); intro w2 hown2 hb2; have HW2 := hid (HW1.out.trans (hb2.mono HW1.out.size)); have HA2 := hid ((hb2.block _ HGL.out).trans HA1.out); have HOZ := hid hown2.rd; clear hown2 hb2)
      | (go_at_call 29; refine (same_any _ _ p (zeros 128) _ (HR.out.below HW2.out) HOZ.out).mono ?_; rintro e w' ⟨rfl, rfl⟩; rw [hzb])
      | fail)
    have HGL2 := hid (Array.getElem?_eq_some_iff.1 HA2.out).1
    have HZ := hid (show ¬ p = List.replicate 128 0 from hz)
    clear hz hzb
    obtain ⟨sn, hsn⟩ : ∃ s, s = (Crc.sum (p.take 124)).toNat := ⟨_, rfl⟩
    obtain ⟨sm, hsm⟩ : ∃ s, s = (p.drop 124 == Knot.le32 (Crc.sum (p.take 124))) := ⟨_, rfl⟩
    have HSU := hid (fun W (hW : Below w2.heap.size w2 W) => refsum_any (.slice (some ⟨b, off, none⟩) 124 cap) (p.take 124) W (by
      have := HPT.out W (HW2.out.trans (hW.mono HW2.out.size)) 0 124 (by omega)
      rwa [List.drop_zero, Nat.add_zero, Nat.sub_zero] at this) (by rw [List.length_take]; omega))
    have HFO := hid (fun W => four_any (Crc.sum (p.take 124)) W)
    have HSA := hid (fun W u (hW : Below w2.heap.size w2 W) (hu : Rd W u (Knot.le32 (Crc.sum (p.take 124)))) => same_any (.slice (some ⟨b, off + 124, none⟩) 4 (cap - 124)) u (p.drop 124) (Knot.le32 (Crc.sum (p.take 124))) W (by
      have := HPT.out W (HW2.out.trans (hW.mono HW2.out.size)) 124 4 (by omega)
      rwa [List.take_of_length_le (by rw [List.length_drop, HL.out]; omega)] at this) hu)
    rw [← hsn] at HSU HFO
    rw [← hsm] at HSA
    have HSM := hid hsm
    clear hsn hsm
    refine Orders.begins (C := []) (by kernel_rfl) ?_
    refine Orders.inv_at (I := fun L A a w => ∃ (b0 b1 b2 b3 b4 b5 b6 b7 : Bool) (v10 v11 v12 v13 v14 v15 v16 v17 : Value), L = #[b0, b1, b2, b3, b4, b5, b6, b7] ∧ a = ((((((((A.put (some 10) v10).put (some 11) v11).put (some 12) v12).put (some 13) v13).put (some 14) v14).put (some 15) v15).put (some 16) v16).put (some 17) v17) ∧ Below w2.heap.size w2 w ∧ (b5 = true → b4 = true) ∧ (b0 = true → v10 = .slice (some ⟨b, off, none⟩) 128 cap) ∧ (b1 = true → v11 = .slice (some ⟨b, off + 124, none⟩) 4 (cap - 124)) ∧ (b2 = true → v12 = .slice (some ⟨b, off, none⟩) 128 cap) ∧ (b3 = true → v13 = .slice (some ⟨b, off, none⟩) 124 cap) ∧ (b4 = true → v14 = .int .u32 (sn : Int)) ∧ (b5 = true → (∃ x y, v15 = .slice x 4 y ∧ Rd w v15 (Knot.le32 (Crc.sum (p.take 124))))) ∧ (b6 = true → v16 = .bool sm) ∧ (b7 = true → v17 = .bool (!sm))) ?start ?step ?fin (by kernel_rfl)
    case start => exact ⟨false, false, false, false, false, false, false, false, undef, undef, undef, undef, undef, undef, undef, undef, rfl, by simp only [Act.put, List.getElem_toArray, List.getElem_cons_succ, List.getElem_cons_zero, List.setIfInBounds_toArray, List.set_cons_zero, List.set_cons_succ], (below_drw (Below.refl _ _)), (fun h => Bool.noConfusion h), (fun h => Bool.noConfusion h), (fun h => Bool.noConfusion h), (fun h => Bool.noConfusion h), (fun h => Bool.noConfusion h), (fun h => Bool.noConfusion h), (fun h => Bool.noConfusion h), (fun h => Bool.noConfusion h), (fun h => Bool.noConfusion h)⟩
    case step =>
      rintro L a w' i ⟨b0, b1, b2, b3, b4, b5, b6, b7, v10, v11, v12, v13, v14, v15, v16, v17, rfl, rfl, HW, D5, C0, C1, C2, C3, C4, C5, C6, C7⟩ hi
      obtain ⟨hlt, hu, hn⟩ := ready_has [[], [0], [], [2], [3], [4], [1, 5], [6]] (by kernel_rfl) (by kernel_rfl) hi
      clear hi
      have hc : i = 0 ∨ i = 1 ∨ i = 2 ∨ i = 3 ∨ i = 4 ∨ i = 5 ∨ i = 6 ∨ i = 7 := (show ∀ i, i < 8 → (i = 0 ∨ i = 1 ∨ i = 2 ∨ i = 3 ∨ i = 4 ∨ i = 5 ∨ i = 6 ∨ i = 7) by decide) i hlt
      clear hlt
      rcases hc with rfl | rfl | rfl | rfl | rfl | rfl | rfl | rfl
      · obtain rfl : b0 = false := hu
        clear hn
        refine wpOp_shut rfl (fun K' hK => ?_)
        simp only [Act.put, List.getElem_toArray, List.getElem_cons_succ, List.getElem_cons_zero, List.setIfInBounds_toArray, List.set_cons_zero, List.set_cons_succ]
        go_simp
        refine hK.out _ _ ⟨true, b1, b2, b3, b4, b5, b6, b7, (.slice (some ⟨b, off, none⟩) 128 cap), v11, v12, v13, v14, v15, v16, v17, rfl, by simp only [Act.put, List.getElem_toArray, List.getElem_cons_succ, List.getElem_cons_zero, List.setIfInBounds_toArray, List.set_cons_zero, List.set_cons_succ], HW, D5, (fun _ => rfl), C1, C2, C3, C4, C5, C6, C7⟩
      · obtain rfl : b1 = false := hu
        obtain rfl : b0 = true := hn 0 (by decide)
        clear hn
        refine wpOp_shut rfl (fun K' hK => ?_)
        simp only [Act.put, List.getElem_toArray, List.getElem_cons_succ, List.getElem_cons_zero, List.setIfInBounds_toArray, List.set_cons_zero, List.set_cons_succ]
        have hC0 := (C0 rfl).symm
        subst hC0
        go_simp
        refine hK.out _ _ ⟨true, true, b2, b3, b4, b5, b6, b7, (.slice (some ⟨b, off, none⟩) 128 cap), (.slice (some ⟨b, off + 124, none⟩) 4 (cap - 124)), v12, v13, v14, v15, v16, v17, rfl, by simp only [Act.put, List.getElem_toArray, List.getElem_cons_succ, List.getElem_cons_zero, List.setIfInBounds_toArray, List.set_cons_zero, List.set_cons_succ], HW, D5, C0, (fun _ => rfl), C2, C3, C4, C5, C6, C7⟩
      · obtain rfl : b2 = false := hu
        clear hn
        refine wpOp_shut rfl (fun K' hK => ?_)
        simp only [Act.put, List.getElem_toArray, List.getElem_cons_succ, List.getElem_cons_zero, List.setIfInBounds_toArray, List.set_cons_zero, List.set_cons_succ]
        go_simp
        refine hK.out _ _ ⟨b0, b1, true, b3, b4, b5, b6, b7, v10, v11, (.slice (some ⟨b, off, none⟩) 128 cap), v13, v14, v15, v16, v17, rfl, by simp only [Act.put, List.getElem_toArray, List.getElem_cons_succ, List.getElem_cons_zero, List.setIfInBounds_toArray, List.set_cons_zero, List.set_cons_succ], HW, D5, C0, C1, (fun _ => rfl), C3, C4, C5, C6, C7⟩
      · obtain rfl : b3 = false := hu
        obtain rfl : b2 = true := hn 2 (by decide)
        clear hn
        refine wpOp_shut rfl (fun K' hK => ?_)
        simp only [Act.put, List.getElem_toArray, List.getElem_cons_succ, List.getElem_cons_zero, List.setIfInBounds_toArray, List.set_cons_zero, List.set_cons_succ]
        have hC2 := (C2 rfl).symm
        subst hC2
        go_simp
        refine hK.out _ _ ⟨b0, b1, true, true, b4, b5, b6, b7, v10, v11, (.slice (some ⟨b, off, none⟩) 128 cap), (.slice (some ⟨b, off, none⟩) 124 cap), v14, v15, v16, v17, rfl, by simp only [Act.put, List.getElem_toArray, List.getElem_cons_succ, List.getElem_cons_zero, List.setIfInBounds_toArray, List.set_cons_zero, List.set_cons_succ], HW, D5, C0, C1, C2, (fun _ => rfl), C4, C5, C6, C7⟩
      · obtain rfl : b4 = false := hu
        obtain rfl : b3 = true := hn 3 (by decide)
        clear hn
        refine wpOp_shut rfl (fun K' hK => ?_)
        simp only [Act.put, List.getElem_toArray, List.getElem_cons_succ, List.getElem_cons_zero, List.setIfInBounds_toArray, List.set_cons_zero, List.set_cons_succ]
        have hC3 := (C3 rfl).symm
        subst hC3
        go_simp
        refine (HSU.out w' HW).mono ?_
        rintro e w2 ⟨rfl, hb⟩
        refine hK.out _ _ ⟨b0, b1, b2, true, true, b5, b6, b7, v10, v11, v12, (.slice (some ⟨b, off, none⟩) 124 cap), (.int .u32 (sn : Int)), v15, v16, v17, rfl, by simp only [Act.put, List.getElem_toArray, List.getElem_cons_succ, List.getElem_cons_zero, List.setIfInBounds_toArray, List.set_cons_zero, List.set_cons_succ], (HW.trans (hb.mono HW.size)), (fun h => absurd (D5 h) (by simp)), C0, C1, C2, C3, (fun _ => rfl), (fun h => absurd (D5 h) (by simp)), C6, C7⟩
      · obtain rfl : b5 = false := hu
        obtain rfl : b4 = true := hn 4 (by decide)
        clear hn
        refine wpOp_shut rfl (fun K' hK => ?_)
        simp only [Act.put, List.getElem_toArray, List.getElem_cons_succ, List.getElem_cons_zero, List.setIfInBounds_toArray, List.set_cons_zero, List.set_cons_succ]
        have hC4 := (C4 rfl).symm
        subst hC4
        go_simp
        refine (HFO.out w').mono ?_
        rintro e w2 ⟨ua, uc, rfl, ho, hb⟩
        refine hK.out _ _ ⟨b0, b1, b2, b3, true, true, b6, b7, v10, v11, v12, v13, (.int .u32 (sn : Int)), (.slice ua 4 uc), v16, v17, rfl, by simp only [Act.put, List.getElem_toArray, List.getElem_cons_succ, List.getElem_cons_zero, List.setIfInBounds_toArray, List.set_cons_zero, List.set_cons_succ], (HW.trans (hb.mono HW.size)), (fun _ => rfl), C0, C1, C2, C3, C4, (fun _ => ⟨_, _, rfl, ho.rd⟩), C6, C7⟩
      · obtain rfl : b6 = false := hu
        obtain rfl : b1 = true := hn 1 (by decide)
        obtain rfl : b5 = true := hn 5 (by decide)
        clear hn
        refine wpOp_shut rfl (fun K' hK => ?_)
        simp only [Act.put, List.getElem_toArray, List.getElem_cons_succ, List.getElem_cons_zero, List.setIfInBounds_toArray, List.set_cons_zero, List.set_cons_succ]
        have hC1 := (C1 rfl).symm
        subst hC1
        have hC4 := (C4 (D5 rfl)).symm
        subst hC4
        obtain ⟨ua, uc, rfl, hr⟩ := C5 rfl
        go_simp
        refine (HSA.out w' _ HW hr).mono ?_
        rintro e w2 ⟨rfl, rfl⟩
        refine hK.out _ _ ⟨b0, true, b2, b3, b4, true, true, b7, v10, (.slice (some ⟨b, off + 124, none⟩) 4 (cap - 124)), v12, v13, (.int .u32 (sn : Int)), (.slice ua 4 uc), (.bool sm), v17, rfl, by simp only [Act.put, List.getElem_toArray, List.getElem_cons_succ, List.getElem_cons_zero, List.setIfInBounds_toArray, List.set_cons_zero, List.set_cons_succ], HW, D5, C0, C1, C2, C3, C4, (fun _ => ⟨_, _, rfl, hr⟩), (fun _ => rfl), C7⟩
      · obtain rfl : b7 = false := hu
        obtain rfl : b6 = true := hn 6 (by decide)
        clear hn
        refine wpOp_shut rfl (fun K' hK => ?_)
        simp only [Act.put, List.getElem_toArray, List.getElem_cons_succ, List.getElem_cons_zero, List.setIfInBounds_toArray, List.set_cons_zero, List.set_cons_succ]
        have hC6 := (C6 rfl).symm
        subst hC6
        go_simp
        refine hK.out _ _ ⟨b0, b1, b2, b3, b4, b5, true, true, v10, v11, v12, v13, v14, v15, (.bool sm), (.bool (!sm)), rfl, by simp only [Act.put, List.getElem_toArray, List.getElem_cons_succ, List.getElem_cons_zero, List.setIfInBounds_toArray, List.set_cons_zero, List.set_cons_succ], HW, D5, C0, C1, C2, C3, C4, C5, C6, (fun _ => rfl)⟩
    case fin =>
      rintro L a w' ⟨b0, b1, b2, b3, b4, b5, b6, b7, v10, v11, v12, v13, v14, v15, v16, v17, rfl, rfl, HW, D5, C0, C1, C2, C3, C4, C5, C6, C7⟩ hr
      have hz : b0 = true ∧ b1 = true ∧ b2 = true ∧ b3 = true ∧ b4 = true ∧ b5 = true ∧ b6 = true ∧ b7 = true := by
        have h := ready_done (by kernel_rfl) (by kernel_rfl) hr
        simpa only [List.all_cons, List.all_nil, id, Bool.and_true, Bool.and_eq_true] using h
      obtain ⟨rfl, rfl, rfl, rfl, rfl, rfl, rfl, rfl⟩ := hz
      clear hr
      simp only [Act.put, List.getElem_toArray, List.getElem_cons_succ, List.getElem_cons_zero, List.setIfInBounds_toArray, List.set_cons_zero, List.set_cons_succ]
      have hC7 := (C7 rfl).symm
      subst hC7
      clear C0 C1 C2 C3 C4 C5 C6 D5
      obtain ⟨w3, hw3⟩ : ∃ z, z = w' := ⟨_, rfl⟩
      rw [← hw3] at HW ⊢
      clear hw3
      have HW3 := hid (HW2.out.trans (HW.mono HW2.out.size))
      have HA3 := hid ((HW.block _ HGL2.out).trans HA2.out)
      clear HW
      have HNL := hid (num_le (p.drop 124) (by rw [List.length_drop, HL.out]) (Crc.sum (p.take 124)))
      by_cases hs : sm = true
      · subst hs
        simp only [Bool.not_true]
        have HSE := hid (show ¬ Knot.num (p.drop 124) 4 ≠ Crc.sum (p.take 124) from fun hne => hne (HNL.out.2 (by have := HSM.out; simpa using this.symm)))
        go_upto_region 6 with fail
        obtain ⟨w5, hw5⟩ : ∃ z, z = w3.alloc (.cells #[.slice (some ⟨b, off, none⟩) 128 cap] 110) := ⟨_, rfl⟩
        rw [← hw5]
        have hb5 : Below w3.heap.size w3 w5 := by rw [hw5]; exact (Below.refl _ _).alloc (Nat.le_refl _) _
        obtain ⟨g4, hg4⟩ : ∃ g, g = w3.heap.size := ⟨_, rfl⟩
        rw [← hg4]
        have HG4 := hid (show w5.heap[g4]? = some (.cells #[.slice (some ⟨b, off, none⟩) 128 cap] 110 (0, 0)) by rw [hw5, hg4]; exact heap_alloc_new _ _)
        have HGL4 := hid (Array.getElem?_eq_some_iff.1 HG4.out).1
        have HW5 := hid (HW3.out.trans (hb5.mono HW3.out.size))
        have HA5 := hid ((hb5.block _ (Array.getElem?_eq_some_iff.1 HA3.out).1).trans HA3.out)
        have HGL5 := hid (Array.getElem?_eq_some_iff.1 HA5.out).1
        clear hw5 hb5 hg4
        obtain ⟨kn, hkn⟩ : ∃ k, k = (p.getD 0 0).toNat := ⟨_, rfl⟩
        obtain ⟨en, hen⟩ : ∃ k, k = (Knot.num (p.drop 2) 4).toNat := ⟨_, rfl⟩
        obtain ⟨xn, hxn⟩ : ∃ k, k = (Knot.num (p.drop 6) 4).toNat := ⟨_, rfl⟩
        obtain ⟨yn, hyn⟩ : ∃ k, k = (Knot.num (p.drop 10) 4).toNat := ⟨_, rfl⟩
        have HCE := hid (fun W (hW : Below w5.heap.size w5 W) => show W.cell? ⟨b, off, none⟩ = some (.int .u8 (kn : Int)) from (HCL.out W (HW5.out.trans (hW.mono HW5.out.size)) 0 (by omega)).trans (by rw [hkn]; rfl))
        have HAT := hid (fun (i : Nat) (hi : i + 4 ≤ 128) W (hW : Below w5.heap.size w5 W) => at_any (.slice (some ⟨b, off, none⟩) 128 cap) p i W (HR.out.below (HW5.out.trans (hW.mono HW5.out.size))) (by rw [HL.out]; exact hi))
        have HAE := hid (fun W hW => show Calls Try.prog 51 #[.agg #[.slice (some ⟨b, off, none⟩) 128 cap], .int .i64 2] W (fun e w' => e = .returned (.int .u32 (en : Int)) ∧ Below W.heap.size W w') from by rw [hen]; exact HAT.out 2 (by omega) W hW)
        have HAX := hid (fun W hW => show Calls Try.prog 51 #[.agg #[.slice (some ⟨b, off, none⟩) 128 cap], .int .i64 6] W (fun e w' => e = .returned (.int .u32 (xn : Int)) ∧ Below W.heap.size W w') from by rw [hxn]; exact HAT.out 6 (by omega) W hW)
        have HAY := hid (fun W hW => show Calls Try.prog 51 #[.agg #[.slice (some ⟨b, off, none⟩) 128 cap], .int .i64 10] W (fun e w' => e = .returned (.int .u32 (yn : Int)) ∧ Below W.heap.size W w') from by rw [hyn]; exact HAT.out 10 (by omega) W hW)
        have HKN := hid hkn
        have HEN := hid hen
        have HXN := hid hxn
        have HYN := hid hyn
        clear hkn hen hxn hyn
        refine Orders.begins (C := []) (by kernel_rfl) ?_
        refine Orders.inv_at (I := fun L A a w => ∃ (b0 b1 b2 b3 b4 b5 b6 b7 b8 b9 b10 b11 : Bool) (v21 v22 v23 v24 v25 v26 v27 v28 v29 v30 v5 : Value), L = #[b0, b1, b2, b3, b4, b5, b6, b7, b8, b9, b10, b11] ∧ a = (((((((((((A.put (some 21) v21).put (some 22) v22).put (some 23) v23).put (some 24) v24).put (some 25) v25).put (some 26) v26).put (some 27) v27).put (some 28) v28).put (some 29) v29).put (some 30) v30).put (some 5) v5) ∧ Below w5.heap.size w5 w ∧ (b11 = true → b0 = true ∧ b1 = true ∧ b2 = true ∧ b3 = true ∧ b4 = true ∧ b5 = true ∧ b6 = true ∧ b7 = true ∧ b8 = true ∧ b9 = true ∧ b10 = true) ∧ (b0 = true → v21 = .slice (some ⟨b, off, none⟩) 128 cap) ∧ (b1 = true → v22 = .pointer (some ⟨b, off, none⟩)) ∧ (b2 = true → v23 = .int .u8 (kn : Int)) ∧ (b3 = true → v24 = .agg #[.slice (some ⟨b, off, none⟩) 128 cap]) ∧ (b4 = true → v25 = .int .u32 (en : Int)) ∧ (b5 = true → v26 = .agg #[.slice (some ⟨b, off, none⟩) 128 cap]) ∧ (b6 = true → v27 = .int .u32 (xn : Int)) ∧ (b7 = true → v28 = .agg #[.slice (some ⟨b, off, none⟩) 128 cap]) ∧ (b8 = true → v29 = .int .u32 (yn : Int)) ∧ (b9 = true → v30 = .agg #[.int .u8 (kn : Int), .int .u32 (en : Int), .int .u32 (xn : Int), .int .u32 (yn : Int), .slice none 0 0]) ∧ (b10 = true → (∃ (g : Nat) (z : Array Value), v5 = .pointer (some ⟨g, 0, none⟩) ∧ w5.heap.size ≤ g ∧ w.heap[g]? = some (.cells z 34 (0, 0)) ∧ (b11 = false → z = #[.int .u8 0, .int .u32 0, .int .u32 0, .int .u32 0, .slice none 0 0]) ∧ (b11 = true → v30 = .agg z)))) ?start ?step ?fin (by kernel_rfl)
        case start => exact ⟨false, false, false, false, false, false, false, false, false, false, false, false, undef, undef, undef, undef, undef, undef, undef, undef, undef, undef, undef, rfl, by simp only [Act.put, List.getElem_toArray, List.getElem_cons_succ, List.getElem_cons_zero, List.setIfInBounds_toArray, List.set_cons_zero, List.set_cons_succ], (below_drw (Below.refl _ _)), (fun h => Bool.noConfusion h), (fun h => Bool.noConfusion h), (fun h => Bool.noConfusion h), (fun h => Bool.noConfusion h), (fun h => Bool.noConfusion h), (fun h => Bool.noConfusion h), (fun h => Bool.noConfusion h), (fun h => Bool.noConfusion h), (fun h => Bool.noConfusion h), (fun h => Bool.noConfusion h), (fun h => Bool.noConfusion h), (fun h => Bool.noConfusion h)⟩
        case step =>
          rintro L a w' i ⟨b0, b1, b2, b3, b4, b5, b6, b7, b8, b9, b10, b11, v21, v22, v23, v24, v25, v26, v27, v28, v29, v30, v5, rfl, rfl, HW, D11, C0, C1, C2, C3, C4, C5, C6, C7, C8, C9, C10⟩ hi
          obtain ⟨hlt, hu, hn⟩ := ready_has [[], [0], [1], [], [3], [], [4, 5], [], [6, 7], [2, 4, 6, 8], [], [0, 1, 2, 3, 4, 5, 6, 7, 8, 9, 10]] (by kernel_rfl) (by kernel_rfl) hi
          clear hi
          have hc : i = 0 ∨ i = 1 ∨ i = 2 ∨ i = 3 ∨ i = 4 ∨ i = 5 ∨ i = 6 ∨ i = 7 ∨ i = 8 ∨ i = 9 ∨ i = 10 ∨ i = 11 := (show ∀ i, i < 12 → (i = 0 ∨ i = 1 ∨ i = 2 ∨ i = 3 ∨ i = 4 ∨ i = 5 ∨ i = 6 ∨ i = 7 ∨ i = 8 ∨ i = 9 ∨ i = 10 ∨ i = 11) by decide) i hlt
          clear hlt
          rcases hc with rfl | rfl | rfl | rfl | rfl | rfl | rfl | rfl | rfl | rfl | rfl | rfl
          · obtain rfl : b0 = false := hu
            clear hn
            refine wpOp_shut rfl (fun K' hK => ?_)
            simp only [Act.put, List.getElem_toArray, List.getElem_cons_succ, List.getElem_cons_zero, List.setIfInBounds_toArray, List.set_cons_zero, List.set_cons_succ]
            go_simp
            refine hK.out _ _ ⟨true, b1, b2, b3, b4, b5, b6, b7, b8, b9, b10, b11, (.slice (some ⟨b, off, none⟩) 128 cap), v22, v23, v24, v25, v26, v27, v28, v29, v30, v5, rfl, by simp only [Act.put, List.getElem_toArray, List.getElem_cons_succ, List.getElem_cons_zero, List.setIfInBounds_toArray, List.set_cons_zero, List.set_cons_succ], HW, (fun h => absurd (D11 h) (by simp)), (fun _ => rfl), C1, C2, C3, C4, C5, C6, C7, C8, C9, C10⟩
          · obtain rfl : b1 = false := hu
            obtain rfl : b0 = true := hn 0 (by decide)
            clear hn
            refine wpOp_shut rfl (fun K' hK => ?_)
            simp only [Act.put, List.getElem_toArray, List.getElem_cons_succ, List.getElem_cons_zero, List.setIfInBounds_toArray, List.set_cons_zero, List.set_cons_succ]
            have hC0 := (C0 rfl).symm
            subst hC0
            go_simp
            refine hK.out _ _ ⟨true, true, b2, b3, b4, b5, b6, b7, b8, b9, b10, b11, (.slice (some ⟨b, off, none⟩) 128 cap), (.pointer (some ⟨b, off, none⟩)), v23, v24, v25, v26, v27, v28, v29, v30, v5, rfl, by simp only [Act.put, List.getElem_toArray, List.getElem_cons_succ, List.getElem_cons_zero, List.setIfInBounds_toArray, List.set_cons_zero, List.set_cons_succ], HW, (fun h => absurd (D11 h) (by simp)), C0, (fun _ => rfl), C2, C3, C4, C5, C6, C7, C8, C9, C10⟩
          · obtain rfl : b2 = false := hu
            obtain rfl : b1 = true := hn 1 (by decide)
            clear hn
            refine wpOp_shut rfl (fun K' hK => ?_)
            simp only [Act.put, List.getElem_toArray, List.getElem_cons_succ, List.getElem_cons_zero, List.setIfInBounds_toArray, List.set_cons_zero, List.set_cons_succ]
            have hC1 := (C1 rfl).symm
            subst hC1
            have e0 : w'.cell? ⟨b, off, none⟩ = some (.int .u8 (kn : Int)) := HCE.out w' HW
            go_simp
            refine hK.out _ _ ⟨b0, true, true, b3, b4, b5, b6, b7, b8, b9, b10, b11, v21, (.pointer (some ⟨b, off, none⟩)), (.int .u8 (kn : Int)), v24, v25, v26, v27, v28, v29, v30, v5, rfl, by simp only [Act.put, List.getElem_toArray, List.getElem_cons_succ, List.getElem_cons_zero, List.setIfInBounds_toArray, List.set_cons_zero, List.set_cons_succ], HW, (fun h => absurd (D11 h) (by simp)), C0, C1, (fun _ => rfl), C3, C4, C5, C6, C7, C8, C9, C10⟩
          · obtain rfl : b3 = false := hu
            clear hn
            refine wpOp_shut rfl (fun K' hK => ?_)
            simp only [Act.put, List.getElem_toArray, List.getElem_cons_succ, List.getElem_cons_zero, List.setIfInBounds_toArray, List.set_cons_zero, List.set_cons_succ]
            have e0 : w'.cell? ⟨g4, 0, none⟩ = some (.slice (some ⟨b, off, none⟩) 128 cap) := (cell_of_row w' _ _ _ _ _ ((HW.block _ HGL4.out).trans HG4.out)).trans rfl
            go_simp
            refine hK.out _ _ ⟨b0, b1, b2, true, b4, b5, b6, b7, b8, b9, b10, b11, v21, v22, v23, (.agg #[.slice (some ⟨b, off, none⟩) 128 cap]), v25, v26, v27, v28, v29, v30, v5, rfl, by simp only [Act.put, List.getElem_toArray, List.getElem_cons_succ, List.getElem_cons_zero, List.setIfInBounds_toArray, List.set_cons_zero, List.set_cons_succ], HW, (fun h => absurd (D11 h) (by simp)), C0, C1, C2, (fun _ => rfl), C4, C5, C6, C7, C8, C9, C10⟩
          · obtain rfl : b4 = false := hu
            obtain rfl : b3 = true := hn 3 (by decide)
            clear hn
            refine wpOp_shut rfl (fun K' hK => ?_)
            simp only [Act.put, List.getElem_toArray, List.getElem_cons_succ, List.getElem_cons_zero, List.setIfInBounds_toArray, List.set_cons_zero, List.set_cons_succ]
            have hC3 := (C3 rfl).symm
            subst hC3
            go_simp
            refine (HAE.out w' HW).mono ?_
            rintro e w2 ⟨rfl, hb⟩
            refine hK.out _ _ ⟨b0, b1, b2, true, true, b5, b6, b7, b8, b9, b10, b11, v21, v22, v23, (.agg #[.slice (some ⟨b, off, none⟩) 128 cap]), (.int .u32 (en : Int)), v26, v27, v28, v29, v30, v5, rfl, by simp only [Act.put, List.getElem_toArray, List.getElem_cons_succ, List.getElem_cons_zero, List.setIfInBounds_toArray, List.set_cons_zero, List.set_cons_succ], (HW.trans (hb.mono HW.size)), (fun h => absurd (D11 h) (by simp)), C0, C1, C2, C3, (fun _ => rfl), C5, C6, C7, C8, C9, (fun h => by obtain ⟨g, z, e, hg, hz, h1, h2⟩ := C10 h; exact ⟨g, z, e, hg, (hb.block _ (Array.getElem?_eq_some_iff.1 hz).1).trans hz, h1, fun h11 => absurd (D11 h11) (by simp)⟩)⟩
          · obtain rfl : b5 = false := hu
            clear hn
            refine wpOp_shut rfl (fun K' hK => ?_)
            simp only [Act.put, List.getElem_toArray, List.getElem_cons_succ, List.getElem_cons_zero, List.setIfInBounds_toArray, List.set_cons_zero, List.set_cons_succ]
            have e0 : w'.cell? ⟨g4, 0, none⟩ = some (.slice (some ⟨b, off, none⟩) 128 cap) := (cell_of_row w' _ _ _ _ _ ((HW.block _ HGL4.out).trans HG4.out)).trans rfl
            go_simp
            refine hK.out _ _ ⟨b0, b1, b2, b3, b4, true, b6, b7, b8, b9, b10, b11, v21, v22, v23, v24, v25, (.agg #[.slice (some ⟨b, off, none⟩) 128 cap]), v27, v28, v29, v30, v5, rfl, by simp only [Act.put, List.getElem_toArray, List.getElem_cons_succ, List.getElem_cons_zero, List.setIfInBounds_toArray, List.set_cons_zero, List.set_cons_succ], HW, (fun h => absurd (D11 h) (by simp)), C0, C1, C2, C3, C4, (fun _ => rfl), C6, C7, C8, C9, C10⟩
          · obtain rfl : b6 = false := hu
            obtain rfl : b4 = true := hn 4 (by decide)
            obtain rfl : b5 = true := hn 5 (by decide)
            clear hn
            refine wpOp_shut rfl (fun K' hK => ?_)
            simp only [Act.put, List.getElem_toArray, List.getElem_cons_succ, List.getElem_cons_zero, List.setIfInBounds_toArray, List.set_cons_zero, List.set_cons_succ]
            have hC4 := (C4 rfl).symm
            subst hC4
            have hC5 := (C5 rfl).symm
            subst hC5
            go_simp
            refine (HAX.out w' HW).mono ?_
            rintro e w2 ⟨rfl, hb⟩
            refine hK.out _ _ ⟨b0, b1, b2, b3, true, true, true, b7, b8, b9, b10, b11, v21, v22, v23, v24, (.int .u32 (en : Int)), (.agg #[.slice (some ⟨b, off, none⟩) 128 cap]), (.int .u32 (xn : Int)), v28, v29, v30, v5, rfl, by simp only [Act.put, List.getElem_toArray, List.getElem_cons_succ, List.getElem_cons_zero, List.setIfInBounds_toArray, List.set_cons_zero, List.set_cons_succ], (HW.trans (hb.mono HW.size)), (fun h => absurd (D11 h) (by simp)), C0, C1, C2, C3, C4, C5, (fun _ => rfl), C7, C8, C9, (fun h => by obtain ⟨g, z, e, hg, hz, h1, h2⟩ := C10 h; exact ⟨g, z, e, hg, (hb.block _ (Array.getElem?_eq_some_iff.1 hz).1).trans hz, h1, fun h11 => absurd (D11 h11) (by simp)⟩)⟩
          · obtain rfl : b7 = false := hu
            clear hn
            refine wpOp_shut rfl (fun K' hK => ?_)
            simp only [Act.put, List.getElem_toArray, List.getElem_cons_succ, List.getElem_cons_zero, List.setIfInBounds_toArray, List.set_cons_zero, List.set_cons_succ]
            have e0 : w'.cell? ⟨g4, 0, none⟩ = some (.slice (some ⟨b, off, none⟩) 128 cap) := (cell_of_row w' _ _ _ _ _ ((HW.block _ HGL4.out).trans HG4.out)).trans rfl
            go_simp
            refine hK.out _ _ ⟨b0, b1, b2, b3, b4, b5, b6, true, b8, b9, b10, b11, v21, v22, v23, v24, v25, v26, v27, (.agg #[.slice (some ⟨b, off, none⟩) 128 cap]), v29, v30, v5, rfl, by simp only [Act.put, List.getElem_toArray, List.getElem_cons_succ, List.getElem_cons_zero, List.setIfInBounds_toArray, List.set_cons_zero, List.set_cons_succ], HW, (fun h => absurd (D11 h) (by simp)), C0, C1, C2, C3, C4, C5, C6, (fun _ => rfl), C8, C9, C10⟩
          · obtain rfl : b8 = false := hu
            obtain rfl : b6 = true := hn 6 (by decide)
            obtain rfl : b7 = true := hn 7 (by decide)
            clear hn
            refine wpOp_shut rfl (fun K' hK => ?_)
            simp only [Act.put, List.getElem_toArray, List.getElem_cons_succ, List.getElem_cons_zero, List.setIfInBounds_toArray, List.set_cons_zero, List.set_cons_succ]
            have hC6 := (C6 rfl).symm
            subst hC6
            have hC7 := (C7 rfl).symm
            subst hC7
            go_simp
            refine (HAY.out w' HW).mono ?_
            rintro e w2 ⟨rfl, hb⟩
            refine hK.out _ _ ⟨b0, b1, b2, b3, b4, b5, true, true, true, b9, b10, b11, v21, v22, v23, v24, v25, v26, (.int .u32 (xn : Int)), (.agg #[.slice (some ⟨b, off, none⟩) 128 cap]), (.int .u32 (yn : Int)), v30, v5, rfl, by simp only [Act.put, List.getElem_toArray, List.getElem_cons_succ, List.getElem_cons_zero, List.setIfInBounds_toArray, List.set_cons_zero, List.set_cons_succ], (HW.trans (hb.mono HW.size)), (fun h => absurd (D11 h) (by simp)), C0, C1, C2, C3, C4, C5, C6, C7, (fun _ => rfl), C9, (fun h => by obtain ⟨g, z, e, hg, hz, h1, h2⟩ := C10 h; exact ⟨g, z, e, hg, (hb.block _ (Array.getElem?_eq_some_iff.1 hz).1).trans hz, h1, fun h11 => absurd (D11 h11) (by simp)⟩)⟩
          · obtain rfl : b9 = false := hu
            obtain rfl : b2 = true := hn 2 (by decide)
            obtain rfl : b4 = true := hn 4 (by decide)
            obtain rfl : b6 = true := hn 6 (by decide)
            obtain rfl : b8 = true := hn 8 (by decide)
            clear hn
            refine wpOp_shut rfl (fun K' hK => ?_)
            simp only [Act.put, List.getElem_toArray, List.getElem_cons_succ, List.getElem_cons_zero, List.setIfInBounds_toArray, List.set_cons_zero, List.set_cons_succ]
            have hC2 := (C2 rfl).symm
            subst hC2
            have hC4 := (C4 rfl).symm
            subst hC4
            have hC6 := (C6 rfl).symm
            subst hC6
            have hC8 := (C8 rfl).symm
            subst hC8
            go_simp
            refine hK.out _ _ ⟨b0, b1, true, b3, true, b5, true, b7, true, true, b10, b11, v21, v22, (.int .u8 (kn : Int)), v24, (.int .u32 (en : Int)), v26, (.int .u32 (xn : Int)), v28, (.int .u32 (yn : Int)), (.agg #[.int .u8 (kn : Int), .int .u32 (en : Int), .int .u32 (xn : Int), .int .u32 (yn : Int), .slice none 0 0]), v5, rfl, by simp only [Act.put, List.getElem_toArray, List.getElem_cons_succ, List.getElem_cons_zero, List.setIfInBounds_toArray, List.set_cons_zero, List.set_cons_succ], HW, (fun h => absurd (D11 h) (by simp)), C0, C1, C2, C3, C4, C5, C6, C7, C8, (fun _ => rfl), (fun h => by obtain ⟨g, z, e, hg, hz, h1, h2⟩ := C10 h; exact ⟨g, z, e, hg, hz, h1, fun h11 => absurd (D11 h11) (by simp)⟩)⟩
          · obtain rfl : b10 = false := hu
            clear hn
            refine wpOp_shut rfl (fun K' hK => ?_)
            simp only [Act.put, List.getElem_toArray, List.getElem_cons_succ, List.getElem_cons_zero, List.setIfInBounds_toArray, List.set_cons_zero, List.set_cons_succ]
            go_simp
            refine hK.out _ _ ⟨b0, b1, b2, b3, b4, b5, b6, b7, b8, b9, true, b11, v21, v22, v23, v24, v25, v26, v27, v28, v29, v30, (.pointer (some ⟨w'.heap.size, 0, none⟩)), rfl, by simp only [Act.put, List.getElem_toArray, List.getElem_cons_succ, List.getElem_cons_zero, List.setIfInBounds_toArray, List.set_cons_zero, List.set_cons_succ], (HW.alloc HW.size _), (fun h => absurd (D11 h) (by simp)), C0, C1, C2, C3, C4, C5, C6, C7, C8, C9, (fun _ => ⟨_, _, rfl, HW.size, heap_alloc_new _ _, fun _ => rfl, fun h11 => absurd (D11 h11) (by simp)⟩)⟩
          · obtain rfl : b11 = false := hu
            obtain rfl : b0 = true := hn 0 (by decide)
            obtain rfl : b1 = true := hn 1 (by decide)
            obtain rfl : b2 = true := hn 2 (by decide)
            obtain rfl : b3 = true := hn 3 (by decide)
            obtain rfl : b4 = true := hn 4 (by decide)
            obtain rfl : b5 = true := hn 5 (by decide)
            obtain rfl : b6 = true := hn 6 (by decide)
            obtain rfl : b7 = true := hn 7 (by decide)
            obtain rfl : b8 = true := hn 8 (by decide)
            obtain rfl : b9 = true := hn 9 (by decide)
            obtain rfl : b10 = true := hn 10 (by decide)
            clear hn
            refine wpOp_shut rfl (fun K' hK => ?_)
            simp only [Act.put, List.getElem_toArray, List.getElem_cons_succ, List.getElem_cons_zero, List.setIfInBounds_toArray, List.set_cons_zero, List.set_cons_succ]
            have hC0 := (C0 rfl).symm
            subst hC0
            have hC1 := (C1 rfl).symm
            subst hC1
            have hC2 := (C2 rfl).symm
            subst hC2
            have hC3 := (C3 rfl).symm
            subst hC3
            have hC4 := (C4 rfl).symm
            subst hC4
            have hC5 := (C5 rfl).symm
            subst hC5
            have hC6 := (C6 rfl).symm
            subst hC6
            have hC7 := (C7 rfl).symm
            subst hC7
            have hC8 := (C8 rfl).symm
            subst hC8
            have hC9 := (C9 rfl).symm
            subst hC9
            obtain ⟨g, z, rfl, hg, hz, h1, -⟩ := C10 rfl
            obtain rfl := h1 rfl
            obtain ⟨⟨m0, m1, m2, m3, m4⟩, f0, f1, f2, f3, f4⟩ := zero5 hz
            go_simp
            refine hK.out _ _ ⟨true, true, true, true, true, true, true, true, true, true, true, true, (.slice (some ⟨b, off, none⟩) 128 cap), (.pointer (some ⟨b, off, none⟩)), (.int .u8 (kn : Int)), (.agg #[.slice (some ⟨b, off, none⟩) 128 cap]), (.int .u32 (en : Int)), (.agg #[.slice (some ⟨b, off, none⟩) 128 cap]), (.int .u32 (xn : Int)), (.agg #[.slice (some ⟨b, off, none⟩) 128 cap]), (.int .u32 (yn : Int)), (.agg #[.int .u8 (kn : Int), .int .u32 (en : Int), .int .u32 (xn : Int), .int .u32 (yn : Int), .slice none 0 0]), (.pointer (some ⟨g, 0, none⟩)), rfl, by simp only [Act.put, List.getElem_toArray, List.getElem_cons_succ, List.getElem_cons_zero, List.setIfInBounds_toArray, List.set_cons_zero, List.set_cons_succ], (set5_below HW hg), (fun _ => ⟨rfl, rfl, rfl, rfl, rfl, rfl, rfl, rfl, rfl, rfl, rfl⟩), C0, C1, C2, C3, C4, C5, C6, C7, C8, C9, (fun _ => ⟨g, _, rfl, hg, set5_heap hz, (fun h => Bool.noConfusion h), fun _ => rfl⟩)⟩
        case fin =>
          rintro L a w' ⟨b0, b1, b2, b3, b4, b5, b6, b7, b8, b9, b10, b11, v21, v22, v23, v24, v25, v26, v27, v28, v29, v30, v5, rfl, rfl, HW, D11, C0, C1, C2, C3, C4, C5, C6, C7, C8, C9, C10⟩ hr
          have hz : b0 = true ∧ b1 = true ∧ b2 = true ∧ b3 = true ∧ b4 = true ∧ b5 = true ∧ b6 = true ∧ b7 = true ∧ b8 = true ∧ b9 = true ∧ b10 = true ∧ b11 = true := by
            have h := ready_done (by kernel_rfl) (by kernel_rfl) hr
            simpa only [List.all_cons, List.all_nil, id, Bool.and_true, Bool.and_eq_true] using h
          obtain ⟨rfl, rfl, rfl, rfl, rfl, rfl, rfl, rfl, rfl, rfl, rfl, rfl⟩ := hz
          clear hr
          simp only [Act.put, List.getElem_toArray, List.getElem_cons_succ, List.getElem_cons_zero, List.setIfInBounds_toArray, List.set_cons_zero, List.set_cons_succ]
          obtain ⟨g, z, rfl, hg, hz, -, h2⟩ := C10 rfl
          have e30 := (C9 rfl).symm.trans (h2 rfl)
          simp only [Value.agg.injEq] at e30
          subst e30
          clear C0 C1 C2 C3 C4 C5 C6 C7 C8 C9 C10 D11 h2
          obtain ⟨w6, hw6⟩ : ∃ z, z = w' := ⟨_, rfl⟩
          rw [← hw6] at HW hz ⊢
          clear hw6
          have HW6 := hid (HW5.out.trans (HW.mono HW5.out.size))
          have HA6 := hid ((HW.block _ HGL5.out).trans HA5.out)
          have HZ6 := hid hz
          have HGG := hid hg
          clear HW hz hg
          obtain ⟨n1, hn1⟩ : ∃ n, n = (p.getD 1 0).toNat := ⟨_, rfl⟩
          have HN1 := hid hn1
          have c1 : w6.cell? ⟨b, off + 1, none⟩ = some (.int .u8 (n1 : Int)) := (HCL.out w6 HW6.out 1 (by omega)).trans (by rw [hn1]; rfl)
          have d0 : w6.cell? ⟨g, 0, none⟩ = some (.int .u8 (kn : Int)) := (cell_of_row w6 _ _ _ _ _ HZ6.out).trans rfl
          clear hn1
          by_cases hk : kn = 0
          · have hkb : ((kn : Int) == 0) = true := by simp [hk]
            have HK := hid (show p.getD 0 0 = 0 from UInt8.toNat_inj.1 (HKN.out.symm.trans hk))
            clear hk c1
            have HE := hid (show said p = (4, Blk.zero) by unfold said; rw [if_neg HZ.out, if_neg HSE.out, if_pos (.inl HK.out)])
            obtain ⟨⟨m0, m1, m2, m3, m4⟩, f0, f1, f2, f3, f4⟩ := zero5 HA6.out
            go_wp2_with fail
            refine bodyPost_ret (results_cellS rfl _ _ _ u0.heap.size 34 _ (0, 0) _ rfl rfl (set5_heap HA6.out) Try.underlying34 HZ5.out) rfl ?_
            exact ⟨.slice none 0 0, by rw [HE.out]; rfl, by rw [HE.out]; exact Own.nil _ _, set5_below HW6.out (Nat.le_refl _)⟩
          · have hkb : ((kn : Int) == 0) = false := by simp [hk]
            have HK := hid (show ¬ p.getD 0 0 = 0 from fun e => hk (by rw [HKN.out, e]; rfl))
            clear hk
            by_cases hn : 104 < n1
            · have hnb : decide ((n1 : Int) > 104) = true := decide_eq_true (by omega)
              have HN := hid hn
              clear hn
              have HE := hid (show said p = (4, Blk.zero) by unfold said; rw [if_neg HZ.out, if_neg HSE.out, if_pos (.inr (by rw [← HN1.out]; exact HN.out))])
              obtain ⟨⟨m0, m1, m2, m3, m4⟩, f0, f1, f2, f3, f4⟩ := zero5 HA6.out
              go_wp2_with fail
              refine bodyPost_ret (results_cellS rfl _ _ _ u0.heap.size 34 _ (0, 0) _ rfl rfl (set5_heap HA6.out) Try.underlying34 HZ5.out) rfl ?_
              exact ⟨.slice none 0 0, by rw [HE.out]; rfl, by rw [HE.out]; exact Own.nil _ _, set5_below HW6.out (Nat.le_refl _)⟩
            · have hnb : decide ((n1 : Int) > 104) = false := decide_eq_false (by omega)
              have HN := hid hn
              clear hn
              obtain ⟨hn, hhn⟩ : ∃ h, h = 14 + n1 := ⟨_, rfl⟩
              have hws : wrap64 (n1 : Int) = (n1 : Int) := w64n _ _ rfl (by have := HN.out; omega)
              have hw14 : wrap64 (14 + (n1 : Int)) = (hn : Int) := w64n _ _ (by omega) (by have := HN.out; omega)
              have h14 : (14 : Int) ≤ (hn : Int) := by omega
              have hhc : (hn : Int) ≤ (cap : Int) := by have := HN.out; omega
              have hsub : hn - 14 = n1 := by omega
              obtain ⟨dt, hdt⟩ : ∃ d, d = (p.drop 14).take n1 := ⟨_, rfl⟩
              have HDL := hid (show dt.length = n1 by rw [hdt, List.length_take, List.length_drop, HL.out]; have := HN.out; omega)
              have HRP := hid (show Rd (w6.alloc (.cells #[] 5)) (.slice (some ⟨b, off + 14, none⟩) n1 (cap - 14)) dt from by
                rw [hdt]
                exact (HPT.out w6 HW6.out 14 n1 (by have := HN.out; omega)).alloc _)
              have HE6 := hid (Own.empty w6 w6.heap.size (Nat.le_refl _))
              have HDT := hid hdt
              have HHN := hid hhn
              clear hdt hhn
              have hws := hid hws
              have hw14 := hid hw14
              go_upto_region 9 with fail
              have hws := hws.out
              have hw14 := hw14.out
              have c1a : (w6.alloc (.cells #[] 5)).cell? ⟨b, off + 1, none⟩ = some (.int .u8 (n1 : Int)) := (((Below.refl w6.heap.size w6).alloc (Nat.le_refl _) (.cells #[] 5)).cell (p := ⟨b, off + 1, none⟩) (World.block_lt_of_cell? _ _ c1)).trans c1
              go_upto_region 10 with (first
                | (at_builtin; (refine appk rfl (.tmp 41) (.tmp 48) rfl w6.heap.size (.slice (some ⟨w6.heap.size, 0, none⟩) 0 0) _ [] dt dt n1 rfl rfl HE6.out HRP.out (by have := HDL.out; simp; omega) rfl (by have := HDL.out; have := HN.out; simp; omega) (by simp) ?_); intro ad cp w7 ho7 hg7; have HO7 := hid ho7; have HB7 := hid (((Below.refl w6.heap.size w6).alloc (Nat.le_refl _) (.cells #[] 5)).grown hg7 (by simp) (fun k hk => by have := (HE6.out.lt k hk).1; omega)); have HZ7 := hid ((HB7.out.block g (Array.getElem?_eq_some_iff.1 HZ6.out).1).trans HZ6.out); obtain ⟨⟨-, -, -, -, q4⟩, -, -, -, -, y4⟩ := zero5 HZ7.out; clear ho7 hg7)
                | fail)
              obtain ⟨w8, hw8⟩ : ∃ z, z = w7.setCell ⟨g, 4, none⟩ (.slice ad n1 cp) := ⟨_, rfl⟩
              rw [← hw8]
              have HZ8 := hid (show w8.heap[g]? = some (.cells #[.int .u8 (kn : Int), .int .u32 (en : Int), .int .u32 (xn : Int), .int .u32 (yn : Int), .slice ad n1 cp] 34 (0, 0)) by rw [hw8]; exact (setCell_heapS _ _ _ _ _ _ _ HZ7.out).trans (by simp))
              have hks : Keeps (fun k => k = g) w7 w8 := by rw [hw8]; exact (Keeps.refl (fun k => k = g) w7).setCell (p := ⟨g, 4, none⟩) (fun _ => rfl) _
              have HO8 := hid (HO7.out.keeps hks (fun k hk => owns_ne HO7.out HZ7.out (by decide) k hk))
              have HW7 := hid (HW6.out.trans (HB7.out.mono HW6.out.size))
              have HW8 := hid (show Below u0.heap.size u0 w8 by rw [hw8]; exact HW7.out.setCell (p := ⟨g, 4, none⟩) (Nat.le_trans HW5.out.size HGG.out) _)
              have HA7 := hid ((HB7.out.block _ (Array.getElem?_eq_some_iff.1 HA6.out).1).trans HA6.out)
              have HA8 := hid ((hks.block _ (Array.getElem?_eq_some_iff.1 HA7.out).1 (fun e => by have := HGG.out; have := HGL5.out; omega)).trans HA7.out)
              clear hw8 hks q4 y4 c1 c1a d0
              have HDB := hid (show (blkOf p).data = dt by rw [HDT.out, HN1.out]; rfl)
              have HBY := hid (show Calls Try.prog 39 #[.agg #[.int .u8 (kn : Int), .int .u32 (en : Int), .int .u32 (xn : Int), .int .u32 (yn : Int), .slice ad n1 cp]] w8 (fun e w' => ∃ ad2 cp2, e = .returned (.slice ad2 128 cp2) ∧ Own w' w8.heap.size (.slice ad2 128 cp2) (blkOf p).bytes ∧ Below w8.heap.size w8 w') from by
                rw [HKN.out, HEN.out, HXN.out, HYN.out]
                exact refbytes_any (blkOf p) ad n1 cp w8 (by rw [HDB.out]; exact HO8.out.rd) (by rw [HDB.out]; exact HDL.out) (by have := HN.out; omega))
              obtain ⟨sq, hsq⟩ : ∃ s, s = ((blkOf p).bytes == p) := ⟨_, rfl⟩
              have HSQ := hid hsq
              have HS2 := hid (fun W u (hW : Below w8.heap.size w8 W) (hu : Rd W u (blkOf p).bytes) => same_any u (.slice (some ⟨b, off, none⟩) 128 cap) (blkOf p).bytes p W hu (HR.out.below (HW8.out.trans (hW.mono HW8.out.size))))
              rw [← hsq] at HS2
              clear hsq
              obtain ⟨⟨q0, q1, q2, q3, q4⟩, -, -, -, -, -⟩ := zero5 HZ8.out
              by_cases hq : sq = true
              · subst hq
                have HE := hid (show said p = (0, blkOf p) by unfold said; rw [if_neg HZ.out, if_neg HSE.out, if_neg (by rintro (h | h); exact HK.out h; exact HN.out (by rw [HN1.out]; exact h)), if_neg (by have h := HSQ.out; rw [eq_comm, beq_iff_eq] at h; exact not_not_intro h)])
                go_wp2_with (first
                  | (go_at_call 39; refine (HBY.out).mono ?_; rintro e w9 ⟨ad2, cp2, rfl, ho9, hb9⟩; have HB9 := hid hb9; have HO9 := hid ho9; clear ho9 hb9)
                  | (go_at_call 29; refine (HS2.out _ _ HB9.out HO9.out.rd).mono ?_; rintro e w' ⟨rfl, rfl⟩; have HW9 := hid (HW8.out.trans (HB9.out.mono HW8.out.size)); have HZ9 := hid ((HB9.out.block g (Array.getElem?_eq_some_iff.1 HZ8.out).1).trans HZ8.out); have HA9 := hid ((HB9.out.block _ (Array.getElem?_eq_some_iff.1 HA8.out).1).trans HA8.out); have HOD := hid (HO8.out.below HB9.out); obtain ⟨⟨r0, r1, r2, r3, r4⟩, -, -, -, -, -⟩ := zero5 HZ9.out; obtain ⟨⟨m0, m1, m2, m3, m4⟩, f0, f1, f2, f3, f4⟩ := zero5 HA9.out)
                  | fail)
                refine bodyPost_ret (results_cellS rfl _ _ _ u0.heap.size 34 _ (0, 0) _ rfl rfl (set5_heap HA9.out) Try.underlying34 HZ5.out) rfl ?_
                refine ⟨.slice ad n1 cp, ?_, ?_, set5_below HW9.out (Nat.le_refl _)⟩
                · rw [HE.out]
                  unfold Blk.val
                  rw [HKN.out, HEN.out, HXN.out, HYN.out]
                  rfl
                · rw [HE.out]
                  dsimp only
                  rw [HDB.out]
                  exact (Own.to HOD.out (fun k hk => set5_other (owns_ne HOD.out HA9.out (by decide) k hk))).base (fun k hk => Nat.le_trans HW6.out.size (HO8.out.lt k hk).1)
              · obtain rfl : sq = false := by simpa using hq
                have HE := hid (show said p = (4, Blk.zero) by unfold said; rw [if_neg HZ.out, if_neg HSE.out, if_neg (by rintro (h | h); exact HK.out h; exact HN.out (by rw [HN1.out]; exact h)), if_pos (by have h := HSQ.out; intro h2; rw [h2] at h; simp at h)])
                go_wp2_with (first
                  | (go_at_call 39; refine (HBY.out).mono ?_; rintro e w9 ⟨ad2, cp2, rfl, ho9, hb9⟩; have HB9 := hid hb9; have HO9 := hid ho9; clear ho9 hb9)
                  | (go_at_call 29; refine (HS2.out _ _ HB9.out HO9.out.rd).mono ?_; rintro e w' ⟨rfl, rfl⟩; have HW9 := hid (HW8.out.trans (HB9.out.mono HW8.out.size)); have HA9 := hid ((HB9.out.block _ (Array.getElem?_eq_some_iff.1 HA8.out).1).trans HA8.out); obtain ⟨⟨m0, m1, m2, m3, m4⟩, f0, f1, f2, f3, f4⟩ := zero5 HA9.out)
                  | fail)
                refine bodyPost_ret (results_cellS rfl _ _ _ u0.heap.size 34 _ (0, 0) _ rfl rfl (set5_heap HA9.out) Try.underlying34 HZ5.out) rfl ?_
                exact ⟨.slice none 0 0, by rw [HE.out]; rfl, by rw [HE.out]; exact Own.nil _ _, set5_below HW9.out (Nat.le_refl _)⟩
      · obtain rfl : sm = false := by simpa using hs
        simp only [Bool.not_false]
        have HE := hid (show said p = (5, Blk.zero) by unfold said; rw [if_neg HZ.out, if_pos (fun e => by have h := HSM.out; rw [HNL.out.1 e] at h; simp at h)])
        obtain ⟨⟨m0, m1, m2, m3, m4⟩, f0, f1, f2, f3, f4⟩ := zero5 HA3.out
        go_wp2_with fail
        refine bodyPost_ret (results_cellS rfl _ _ _ u0.heap.size 34 _ (0, 0) _ rfl rfl (set5_heap HA3.out) Try.underlying34 HZ5.out) rfl ?_
        exact ⟨.slice none 0 0, by rw [HE.out]; rfl, by rw [HE.out]; exact Own.nil _ _, set5_below HW3.out (Nat.le_refl _)⟩

end Go.Proofs.Ytbagpckiegpalaa
