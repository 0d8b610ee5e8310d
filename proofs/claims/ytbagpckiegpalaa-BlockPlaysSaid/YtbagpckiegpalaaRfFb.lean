/-
  Layer 6, the document's: a block's sector.
-/
import Derived.Test.YtbagpckiegpalaaRfFa
namespace Go.Proofs.Ytbagpckiegpalaa
open Go.RowKit
set_option linter.unusedVariables false
set_option linter.unusedSimpArgs false

set_option maxRecDepth 100000 in
set_option maxHeartbeats 4000000 in
theorem refbytes_any (B : Blk) (sa : Option Addr) (dn sc : Nat) (u0 : World) (hr : Rd u0 (.slice sa dn sc) B.data) (hl : B.data.length = dn) (hn : dn ≤ 104) :
    Calls Try.prog 39 #[B.val (.slice sa dn sc)] u0 fun e w' => ∃ ad cp, e = .returned (.slice ad 128 cp) ∧ Own w' u0.heap.size (.slice ad 128 cp) B.bytes ∧ Below u0.heap.size u0 w' := by
  obtain ⟨kn, hkn⟩ : ∃ k, k = B.kind.toNat := ⟨_, rfl⟩
  obtain ⟨en, hen⟩ : ∃ k, k = B.epoch.toNat := ⟨_, rfl⟩
  obtain ⟨xn, hxn⟩ : ∃ k, k = B.a.toNat := ⟨_, rfl⟩
  obtain ⟨yn, hyn⟩ : ∃ k, k = B.b.toNat := ⟨_, rfl⟩
  unfold Blk.val
  rw [← hkn, ← hen, ← hxn, ← hyn]
  obtain ⟨w1, hw1⟩ : ∃ z, z = u0.alloc (.cells #[.int .u8 (kn : Int), .int .u32 (en : Int), .int .u32 (xn : Int), .int .u32 (yn : Int), .slice sa dn sc] 34) := ⟨_, rfl⟩
  have HB1 := hid (show Below u0.heap.size u0 w1 by rw [hw1]; exact (Below.refl _ _).alloc (Nat.le_refl _) _)
  have HG1 := hid (show w1.heap[u0.heap.size]? = some (.cells #[.int .u8 (kn : Int), .int .u32 (en : Int), .int .u32 (xn : Int), .int .u32 (yn : Int), .slice sa dn sc] 34 (0, 0)) by rw [hw1]; exact heap_alloc_new _ _)
  have HGL := hid (Array.getElem?_eq_some_iff.1 HG1.out).1
  have HRD := hid hr
  have HDL := hid hl
  have HN := hid hn
  have HFL := hid (B.front_length (by omega))
  have HN8 := hid (show IntKind.u8.wrap (dn : Int) = (dn : Int) by simp [IntKind.wrap, IntKind.signed, IntKind.bits]; omega)
  have HKD := hid (show (#[.int .u8 (kn : Int), .int .u8 (dn : Int)] : Array Value).toList = [B.kind, UInt8.ofNat dn].map bv by
    have e : ((UInt8.ofNat dn).toNat : Int) = (dn : Int) := by simp; omega
    simp [bv, e, hkn]
    omega)
  have HFE := hid (fun W => four_any B.epoch W)
  have HFX := hid (fun W => four_any B.a W)
  have HFY := hid (fun W => four_any B.b W)
  rw [← hen] at HFE
  rw [← hxn] at HFX
  rw [← hyn] at HFY
  have HW1 := hid hw1
  clear hr hl hn hkn hen hxn hyn hw1
  go_enter Try.func39, Try.ntmps39
  go_upto_region 1 with fail
  rw [← HW1.out]
  refine Orders.begins (C := []) (by kernel_rfl) ?_
  refine Orders.inv_at (I := fun L A a w => ∃ (b0 b1 b2 b3 b4 b5 b6 b7 b8 b9 b10 b11 : Bool) (v4 v5 v6 v7 v8 v9 v10 v11 v12 v13 v14 v3 : Value), L = #[b0, b1, b2, b3, b4, b5, b6, b7, b8, b9, b10, b11] ∧ a = ((((((((((((A.put (some 4) v4).put (some 5) v5).put (some 6) v6).put (some 7) v7).put (some 8) v8).put (some 9) v9).put (some 10) v10).put (some 11) v11).put (some 12) v12).put (some 13) v13).put (some 14) v14).put (some 3) v3) ∧ Below w1.heap.size w1 w ∧ (b10 = true → b6 = true ∧ b9 = true) ∧ (b11 = true → b10 = true) ∧ (b0 = true → v4 = .pointer (some ⟨u0.heap.size, 0, none⟩)) ∧ (b1 = true → v5 = .int .u8 (kn : Int)) ∧ (b2 = true → v6 = .pointer (some ⟨u0.heap.size, 4, none⟩)) ∧ (b3 = true → v7 = .slice sa dn sc) ∧ (b4 = true → v8 = .int .i64 (dn : Int)) ∧ (b5 = true → v9 = .int .u8 (dn : Int)) ∧ (b6 = true → (b10 = false → ∃ x y, v10 = .slice x 2 y ∧ Own w w1.heap.size v10 [B.kind, UInt8.ofNat dn])) ∧ (b7 = true → v11 = .pointer (some ⟨u0.heap.size, 1, none⟩)) ∧ (b8 = true → v12 = .int .u32 (en : Int)) ∧ (b9 = true → (b10 = false → ∃ x y, v13 = .slice x 4 y ∧ Own w w1.heap.size v13 (Knot.le32 B.epoch))) ∧ (b10 = true → (∃ x y, v14 = .slice x 6 y ∧ Own w w1.heap.size v14 ([B.kind, UInt8.ofNat dn] ++ Knot.le32 B.epoch))) ∧ (b11 = true → (∃ x y, v3 = .slice x 6 y ∧ Own w w1.heap.size v3 ([B.kind, UInt8.ofNat dn] ++ Knot.le32 B.epoch)))) ?start ?step ?fin (by kernel_rfl)
  case start => exact ⟨false, false, false, false, false, false, false, false, false, false, false, false, undef, undef, undef, undef, undef, undef, undef, undef, undef, undef, undef, undef, rfl, by simp only [Act.put, List.getElem_toArray, List.getElem_cons_succ, List.getElem_cons_zero, List.setIfInBounds_toArray, List.set_cons_zero, List.set_cons_succ], (below_drw (Below.refl _ _)), (fun h => Bool.noConfusion h), (fun h => Bool.noConfusion h), (fun h => Bool.noConfusion h), (fun h => Bool.noConfusion h), (fun h => Bool.noConfusion h), (fun h => Bool.noConfusion h), (fun h => Bool.noConfusion h), (fun h => Bool.noConfusion h), (fun h => Bool.noConfusion h), (fun h => Bool.noConfusion h), (fun h => Bool.noConfusion h), (fun h => Bool.noConfusion h), (fun h => Bool.noConfusion h), (fun h => Bool.noConfusion h)⟩
  case step =>
    rintro L a w' i ⟨b0, b1, b2, b3, b4, b5, b6, b7, b8, b9, b10, b11, v4, v5, v6, v7, v8, v9, v10, v11, v12, v13, v14, v3, rfl, rfl, HW, D10, D11, C0, C1, C2, C3, C4, C5, C6, C7, C8, C9, C10, C11⟩ hi
    obtain ⟨hlt, hu, hn⟩ := ready_has [[], [0], [], [2], [3], [4], [1, 5], [], [7], [8], [6, 9], [0, 1, 2, 3, 4, 5, 6, 7, 8, 9, 10]] (by kernel_rfl) (by kernel_rfl) hi
    clear hi
    have hc : i = 0 ∨ i = 1 ∨ i = 2 ∨ i = 3 ∨ i = 4 ∨ i = 5 ∨ i = 6 ∨ i = 7 ∨ i = 8 ∨ i = 9 ∨ i = 10 ∨ i = 11 := (show ∀ i, i < 12 → (i = 0 ∨ i = 1 ∨ i = 2 ∨ i = 3 ∨ i = 4 ∨ i = 5 ∨ i = 6 ∨ i = 7 ∨ i = 8 ∨ i = 9 ∨ i = 10 ∨ i = 11) by decide) i hlt
    clear hlt
    rcases hc with rfl | rfl | rfl | rfl | rfl | rfl | rfl | rfl | rfl | rfl | rfl | rfl
    · obtain rfl : b0 = false := hu
      clear hn
      refine wpOp_shut rfl (fun K' hK => ?_)
      simp only [Act.put, List.getElem_toArray, List.getElem_cons_succ, List.getElem_cons_zero, List.setIfInBounds_toArray, List.set_cons_zero, List.set_cons_succ]
      go_simp
      refine hK.out _ _ ⟨true, b1, b2, b3, b4, b5, b6, b7, b8, b9, b10, b11, (.pointer (some ⟨u0.heap.size, 0, none⟩)), v5, v6, v7, v8, v9, v10, v11, v12, v13, v14, v3, rfl, by simp only [Act.put, List.getElem_toArray, List.getElem_cons_succ, List.getElem_cons_zero, List.setIfInBounds_toArray, List.set_cons_zero, List.set_cons_succ], HW, D10, D11, (fun _ => rfl), C1, C2, C3, C4, C5, C6, C7, C8, C9, C10, C11⟩
    · obtain rfl : b1 = false := hu
      obtain rfl : b0 = true := hn 0 (by decide)
      clear hn
      refine wpOp_shut rfl (fun K' hK => ?_)
      simp only [Act.put, List.getElem_toArray, List.getElem_cons_succ, List.getElem_cons_zero, List.setIfInBounds_toArray, List.set_cons_zero, List.set_cons_succ]
      have hC0 := (C0 rfl).symm
      subst hC0
      have e0 : w'.cell? ⟨u0.heap.size, 0, none⟩ = some (.int .u8 (kn : Int)) := (cell_of_row w' _ _ _ _ _ ((HW.block _ HGL.out).trans HG1.out)).trans rfl
      go_simp
      refine hK.out _ _ ⟨true, true, b2, b3, b4, b5, b6, b7, b8, b9, b10, b11, (.pointer (some ⟨u0.heap.size, 0, none⟩)), (.int .u8 (kn : Int)), v6, v7, v8, v9, v10, v11, v12, v13, v14, v3, rfl, by simp only [Act.put, List.getElem_toArray, List.getElem_cons_succ, List.getElem_cons_zero, List.setIfInBounds_toArray, List.set_cons_zero, List.set_cons_succ], HW, D10, D11, C0, (fun _ => rfl), C2, C3, C4, C5, C6, C7, C8, C9, C10, C11⟩
    · obtain rfl : b2 = false := hu
      clear hn
      refine wpOp_shut rfl (fun K' hK => ?_)
      simp only [Act.put, List.getElem_toArray, List.getElem_cons_succ, List.getElem_cons_zero, List.setIfInBounds_toArray, List.set_cons_zero, List.set_cons_succ]
      go_simp
      refine hK.out _ _ ⟨b0, b1, true, b3, b4, b5, b6, b7, b8, b9, b10, b11, v4, v5, (.pointer (some ⟨u0.heap.size, 4, none⟩)), v7, v8, v9, v10, v11, v12, v13, v14, v3, rfl, by simp only [Act.put, List.getElem_toArray, List.getElem_cons_succ, List.getElem_cons_zero, List.setIfInBounds_toArray, List.set_cons_zero, List.set_cons_succ], HW, D10, D11, C0, C1, (fun _ => rfl), C3, C4, C5, C6, C7, C8, C9, C10, C11⟩
    · obtain rfl : b3 = false := hu
      obtain rfl : b2 = true := hn 2 (by decide)
      clear hn
      refine wpOp_shut rfl (fun K' hK => ?_)
      simp only [Act.put, List.getElem_toArray, List.getElem_cons_succ, List.getElem_cons_zero, List.setIfInBounds_toArray, List.set_cons_zero, List.set_cons_succ]
      have hC2 := (C2 rfl).symm
      subst hC2
      have e4 : w'.cell? ⟨u0.heap.size, 4, none⟩ = some (.slice sa dn sc) := (cell_of_row w' _ _ _ _ _ ((HW.block _ HGL.out).trans HG1.out)).trans rfl
      go_simp
      refine hK.out _ _ ⟨b0, b1, true, true, b4, b5, b6, b7, b8, b9, b10, b11, v4, v5, (.pointer (some ⟨u0.heap.size, 4, none⟩)), (.slice sa dn sc), v8, v9, v10, v11, v12, v13, v14, v3, rfl, by simp only [Act.put, List.getElem_toArray, List.getElem_cons_succ, List.getElem_cons_zero, List.setIfInBounds_toArray, List.set_cons_zero, List.set_cons_succ], HW, D10, D11, C0, C1, C2, (fun _ => rfl), C4, C5, C6, C7, C8, C9, C10, C11⟩
    · obtain rfl : b4 = false := hu
      obtain rfl : b3 = true := hn 3 (by decide)
      clear hn
      refine wpOp_shut rfl (fun K' hK => ?_)
      simp only [Act.put, List.getElem_toArray, List.getElem_cons_succ, List.getElem_cons_zero, List.setIfInBounds_toArray, List.set_cons_zero, List.set_cons_succ]
      have hC3 := (C3 rfl).symm
      subst hC3
      go_simp
      refine hK.out _ _ ⟨b0, b1, b2, true, true, b5, b6, b7, b8, b9, b10, b11, v4, v5, v6, (.slice sa dn sc), (.int .i64 (dn : Int)), v9, v10, v11, v12, v13, v14, v3, rfl, by simp only [Act.put, List.getElem_toArray, List.getElem_cons_succ, List.getElem_cons_zero, List.setIfInBounds_toArray, List.set_cons_zero, List.set_cons_succ], HW, D10, D11, C0, C1, C2, C3, (fun _ => rfl), C5, C6, C7, C8, C9, C10, C11⟩
    · obtain rfl : b5 = false := hu
      obtain rfl : b4 = true := hn 4 (by decide)
      clear hn
      refine wpOp_shut rfl (fun K' hK => ?_)
      simp only [Act.put, List.getElem_toArray, List.getElem_cons_succ, List.getElem_cons_zero, List.setIfInBounds_toArray, List.set_cons_zero, List.set_cons_succ]
      have hC4 := (C4 rfl).symm
      subst hC4
      have hn8 := HN8.out
      go_simp
      refine hK.out _ _ ⟨b0, b1, b2, b3, true, true, b6, b7, b8, b9, b10, b11, v4, v5, v6, v7, (.int .i64 (dn : Int)), (.int .u8 (dn : Int)), v10, v11, v12, v13, v14, v3, rfl, by simp only [Act.put, List.getElem_toArray, List.getElem_cons_succ, List.getElem_cons_zero, List.setIfInBounds_toArray, List.set_cons_zero, List.set_cons_succ], HW, D10, D11, C0, C1, C2, C3, C4, (fun _ => rfl), C6, C7, C8, C9, C10, C11⟩
    · obtain rfl : b6 = false := hu
      obtain rfl : b1 = true := hn 1 (by decide)
      obtain rfl : b5 = true := hn 5 (by decide)
      clear hn
      refine wpOp_shut rfl (fun K' hK => ?_)
      simp only [Act.put, List.getElem_toArray, List.getElem_cons_succ, List.getElem_cons_zero, List.setIfInBounds_toArray, List.set_cons_zero, List.set_cons_succ]
      have hC1 := (C1 rfl).symm
      subst hC1
      have hC5 := (C5 rfl).symm
      subst hC5
      go_simp
      refine hK.out _ _ ⟨b0, true, b2, b3, b4, true, true, b7, b8, b9, b10, b11, v4, (.int .u8 (kn : Int)), v6, v7, v8, (.int .u8 (dn : Int)), (.slice (some ⟨w'.heap.size, 0, none⟩) 2 2), v11, v12, v13, v14, v3, rfl, by simp only [Act.put, List.getElem_toArray, List.getElem_cons_succ, List.getElem_cons_zero, List.setIfInBounds_toArray, List.set_cons_zero, List.set_cons_succ], (HW.alloc HW.size _), (fun h => absurd (D10 h) (by simp)), D11, C0, C1, C2, C3, C4, C5, (fun _ _ => ⟨_, _, rfl, Own.lit w' _ _ _ 2 rfl HKD.out (by unfold maxLen; simp) HW.size⟩), C7, C8, (fun h h' => by obtain ⟨x, y, e, ho⟩ := C9 h h'; exact ⟨x, y, e, ho.below ((Below.refl _ _).alloc (Nat.le_refl _) _)⟩), (fun h => absurd (D10 h).1 (by simp)), (fun h => absurd (D10 (D11 h)).1 (by simp))⟩
    · obtain rfl : b7 = false := hu
      clear hn
      refine wpOp_shut rfl (fun K' hK => ?_)
      simp only [Act.put, List.getElem_toArray, List.getElem_cons_succ, List.getElem_cons_zero, List.setIfInBounds_toArray, List.set_cons_zero, List.set_cons_succ]
      go_simp
      refine hK.out _ _ ⟨b0, b1, b2, b3, b4, b5, b6, true, b8, b9, b10, b11, v4, v5, v6, v7, v8, v9, v10, (.pointer (some ⟨u0.heap.size, 1, none⟩)), v12, v13, v14, v3, rfl, by simp only [Act.put, List.getElem_toArray, List.getElem_cons_succ, List.getElem_cons_zero, List.setIfInBounds_toArray, List.set_cons_zero, List.set_cons_succ], HW, D10, D11, C0, C1, C2, C3, C4, C5, C6, (fun _ => rfl), C8, C9, C10, C11⟩
    · obtain rfl : b8 = false := hu
      obtain rfl : b7 = true := hn 7 (by decide)
      clear hn
      refine wpOp_shut rfl (fun K' hK => ?_)
      simp only [Act.put, List.getElem_toArray, List.getElem_cons_succ, List.getElem_cons_zero, List.setIfInBounds_toArray, List.set_cons_zero, List.set_cons_succ]
      have hC7 := (C7 rfl).symm
      subst hC7
      have e1 : w'.cell? ⟨u0.heap.size, 1, none⟩ = some (.int .u32 (en : Int)) := (cell_of_row w' _ _ _ _ _ ((HW.block _ HGL.out).trans HG1.out)).trans rfl
      go_simp
      refine hK.out _ _ ⟨b0, b1, b2, b3, b4, b5, b6, true, true, b9, b10, b11, v4, v5, v6, v7, v8, v9, v10, (.pointer (some ⟨u0.heap.size, 1, none⟩)), (.int .u32 (en : Int)), v13, v14, v3, rfl, by simp only [Act.put, List.getElem_toArray, List.getElem_cons_succ, List.getElem_cons_zero, List.setIfInBounds_toArray, List.set_cons_zero, List.set_cons_succ], HW, D10, D11, C0, C1, C2, C3, C4, C5, C6, C7, (fun _ => rfl), C9, C10, C11⟩
    · obtain rfl : b9 = false := hu
      obtain rfl : b8 = true := hn 8 (by decide)
      clear hn
      refine wpOp_shut rfl (fun K' hK => ?_)
      simp only [Act.put, List.getElem_toArray, List.getElem_cons_succ, List.getElem_cons_zero, List.setIfInBounds_toArray, List.set_cons_zero, List.set_cons_succ]
      have hC8 := (C8 rfl).symm
      subst hC8
      go_simp
      refine (HFE.out w').mono ?_
      rintro e w2 ⟨ua, uc, rfl, ho, hb⟩
      refine hK.out _ _ ⟨b0, b1, b2, b3, b4, b5, b6, b7, true, true, b10, b11, v4, v5, v6, v7, v8, v9, v10, v11, (.int .u32 (en : Int)), (.slice ua 4 uc), v14, v3, rfl, by simp only [Act.put, List.getElem_toArray, List.getElem_cons_succ, List.getElem_cons_zero, List.setIfInBounds_toArray, List.set_cons_zero, List.set_cons_succ], (HW.trans (hb.mono HW.size)), (fun h => absurd (D10 h) (by simp)), D11, C0, C1, C2, C3, C4, C5, (fun h h' => by obtain ⟨x, y, e, ho⟩ := C6 h h'; exact ⟨x, y, e, ho.below hb⟩), C7, C8, (fun _ _ => ⟨ua, uc, rfl, ho.base (fun k hk => Nat.le_trans HW.size (ho.lt k hk).1)⟩), (fun h => absurd (D10 h).2 (by simp)), (fun h => absurd (D10 (D11 h)).2 (by simp))⟩
    · obtain rfl : b10 = false := hu
      obtain rfl : b6 = true := hn 6 (by decide)
      obtain rfl : b9 = true := hn 9 (by decide)
      clear hn
      refine wpOp_shut rfl (fun K' hK => ?_)
      simp only [Act.put, List.getElem_toArray, List.getElem_cons_succ, List.getElem_cons_zero, List.setIfInBounds_toArray, List.set_cons_zero, List.set_cons_succ]
      obtain ⟨a2, c2, rfl, ho1⟩ := C6 rfl rfl
      obtain ⟨a4, c4, rfl, ho2⟩ := C9 rfl rfl
      rw [if_pos (by rfl)]
      refine op_app (.tmp 10) (.tmp 13) rfl w1.heap.size (.slice a2 2 c2) (.slice a4 4 c4) _ _ _ 6 rfl rfl ho1 ho2.rd rfl rfl (by unfold Knot.le32; simp) HW.size ?_
      intro ad cp w7 hoz hg
      simp only [Act.put, List.getElem_toArray, List.getElem_cons_succ, List.getElem_cons_zero, List.setIfInBounds_toArray, List.set_cons_zero, List.set_cons_succ]
      refine hK.out _ _ ⟨b0, b1, b2, b3, b4, b5, true, b7, b8, true, true, b11, v4, v5, v6, v7, v8, v9, (.slice a2 2 c2), v11, v12, (.slice a4 4 c4), (.slice ad 6 cp), v3, rfl, by simp only [Act.put, List.getElem_toArray, List.getElem_cons_succ, List.getElem_cons_zero, List.setIfInBounds_toArray, List.set_cons_zero, List.set_cons_succ], (ho1.grown HW hg (Nat.le_refl _) HW.size), (fun _ => ⟨rfl, rfl⟩), (fun h => absurd (D11 h) (by simp)), C0, C1, C2, C3, C4, C5, (fun _ h => Bool.noConfusion h), C7, C8, (fun _ h => Bool.noConfusion h), (fun _ => ⟨_, _, rfl, hoz⟩), (fun h => absurd (D11 h) (by simp))⟩
    · obtain rfl : b11 = false := hu
      obtain rfl : b0 = true := hn 0 (by decide)
      obtain rfl : b1 = true := hn 1 (by decide)
      obtain rfl : b2 = true := hn 2 (by decide)
      obtain rfl : b3 = true := hn 3 (by decide)
      obtain rfl : b4 = true := hn 4 (by decide)
      obtain rfl : b5 = true := hn 5 (by decide)
      obtain rfl : b6 = true := hn 6 (by decide)
      obtain rfl : b7 = true := hn 7 (by decide)
      obtain rfl : b8 = true := hn 8 (by decide)
      obtain rfl : b9 = true := hn 9 (by decide)
      obtain rfl : b10 = true := hn 10 (by decide)
      clear hn
      refine wpOp_shut rfl (fun K' hK => ?_)
      simp only [Act.put, List.getElem_toArray, List.getElem_cons_succ, List.getElem_cons_zero, List.setIfInBounds_toArray, List.set_cons_zero, List.set_cons_succ]
      have hC0 := (C0 rfl).symm
      subst hC0
      have hC1 := (C1 rfl).symm
      subst hC1
      have hC2 := (C2 rfl).symm
      subst hC2
      have hC3 := (C3 rfl).symm
      subst hC3
      have hC4 := (C4 rfl).symm
      subst hC4
      have hC5 := (C5 rfl).symm
      subst hC5
      have hC7 := (C7 rfl).symm
      subst hC7
      have hC8 := (C8 rfl).symm
      subst hC8
      obtain ⟨a6, c6, rfl, hoz⟩ := C10 rfl
      go_simp
      refine hK.out _ _ ⟨true, true, true, true, true, true, true, true, true, true, true, true, (.pointer (some ⟨u0.heap.size, 0, none⟩)), (.int .u8 (kn : Int)), (.pointer (some ⟨u0.heap.size, 4, none⟩)), (.slice sa dn sc), (.int .i64 (dn : Int)), (.int .u8 (dn : Int)), v10, (.pointer (some ⟨u0.heap.size, 1, none⟩)), (.int .u32 (en : Int)), v13, (.slice a6 6 c6), (.slice a6 6 c6), rfl, by simp only [Act.put, List.getElem_toArray, List.getElem_cons_succ, List.getElem_cons_zero, List.setIfInBounds_toArray, List.set_cons_zero, List.set_cons_succ], HW, D10, (fun _ => rfl), C0, C1, C2, C3, C4, C5, C6, C7, C8, C9, (fun _ => ⟨_, _, rfl, hoz⟩), (fun _ => ⟨_, _, rfl, hoz⟩)⟩
  case fin =>
    rintro L a w' ⟨b0, b1, b2, b3, b4, b5, b6, b7, b8, b9, b10, b11, v4, v5, v6, v7, v8, v9, v10, v11, v12, v13, v14, v3, rfl, rfl, HW, D10, D11, C0, C1, C2, C3, C4, C5, C6, C7, C8, C9, C10, C11⟩ hr
    have hz : b0 = true ∧ b1 = true ∧ b2 = true ∧ b3 = true ∧ b4 = true ∧ b5 = true ∧ b6 = true ∧ b7 = true ∧ b8 = true ∧ b9 = true ∧ b10 = true ∧ b11 = true := by
      have h := ready_done (by kernel_rfl) (by kernel_rfl) hr
      simpa only [List.all_cons, List.all_nil, id, Bool.and_true, Bool.and_eq_true] using h
    obtain ⟨rfl, rfl, rfl, rfl, rfl, rfl, rfl, rfl, rfl, rfl, rfl, rfl⟩ := hz
    clear hr
    simp only [Act.put, List.getElem_toArray, List.getElem_cons_succ, List.getElem_cons_zero, List.setIfInBounds_toArray, List.set_cons_zero, List.set_cons_succ]
    obtain ⟨ad1, cp1, rfl, ho1⟩ := C11 rfl
    clear C0 C1 C2 C3 C4 C5 C6 C7 C8 C9 C10 C11 D10 D11
    obtain ⟨w3, hw3⟩ : ∃ z, z = w' := ⟨_, rfl⟩
    rw [← hw3] at HW ho1 ⊢
    clear hw3
    have HW3 := hid HW
    have HO1 := hid ho1
    clear HW ho1
    go_upto_region 2 with fail
    refine Orders.begins (C := []) (by kernel_rfl) ?_
    refine Orders.inv_at (I := fun L A a w => ∃ (b0 b1 b2 b3 b4 b5 b6 b7 b8 b9 : Bool) (v15 v16 v17 v18 v19 v20 v21 v22 v23 v3 : Value), L = #[b0, b1, b2, b3, b4, b5, b6, b7, b8, b9] ∧ a = ((((((((((A.put (some 15) v15).put (some 16) v16).put (some 17) v17).put (some 18) v18).put (some 19) v19).put (some 20) v20).put (some 21) v21).put (some 22) v22).put (some 23) v23).put (some 3) v3) ∧ Below w1.heap.size w1 w ∧ (b4 = false → Own w w1.heap.size (.slice ad1 6 cp1) ([B.kind, UInt8.ofNat dn] ++ Knot.le32 B.epoch)) ∧ (b9 = false → v3 = .slice ad1 6 cp1) ∧ (b4 = true → b0 = true ∧ b3 = true) ∧ (b7 = true → b4 = true) ∧ (b8 = true → b7 = true ∧ b4 = true) ∧ (b9 = true → b8 = true) ∧ (b0 = true → v15 = .slice ad1 6 cp1) ∧ (b1 = true → v16 = .pointer (some ⟨u0.heap.size, 2, none⟩)) ∧ (b2 = true → v17 = .int .u32 (xn : Int)) ∧ (b3 = true → (b4 = false → ∃ x y, v18 = .slice x 4 y ∧ Own w w1.heap.size v18 (Knot.le32 B.a))) ∧ (b4 = true → (b8 = false → ∃ x y, v19 = .slice x 10 y ∧ Own w w1.heap.size v19 (([B.kind, UInt8.ofNat dn] ++ Knot.le32 B.epoch) ++ Knot.le32 B.a))) ∧ (b5 = true → v20 = .pointer (some ⟨u0.heap.size, 3, none⟩)) ∧ (b6 = true → v21 = .int .u32 (yn : Int)) ∧ (b7 = true → (b8 = false → ∃ x y, v22 = .slice x 4 y ∧ Own w w1.heap.size v22 (Knot.le32 B.b))) ∧ (b8 = true → (∃ x y, v23 = .slice x 14 y ∧ Own w w1.heap.size v23 ((([B.kind, UInt8.ofNat dn] ++ Knot.le32 B.epoch) ++ Knot.le32 B.a) ++ Knot.le32 B.b))) ∧ (b9 = true → (∃ x y, v3 = .slice x 14 y ∧ Own w w1.heap.size v3 ((([B.kind, UInt8.ofNat dn] ++ Knot.le32 B.epoch) ++ Knot.le32 B.a) ++ Knot.le32 B.b)))) ?start ?step ?fin (by kernel_rfl)
    case start => exact ⟨false, false, false, false, false, false, false, false, false, false, undef, undef, undef, undef, undef, undef, undef, undef, undef, .slice ad1 6 cp1, rfl, by simp only [Act.put, List.getElem_toArray, List.getElem_cons_succ, List.getElem_cons_zero, List.setIfInBounds_toArray, List.set_cons_zero, List.set_cons_succ], (below_drw HW3.out), (fun _ => HO1.out), (fun _ => rfl), (fun h => Bool.noConfusion h), (fun h => Bool.noConfusion h), (fun h => Bool.noConfusion h), (fun h => Bool.noConfusion h), (fun h => Bool.noConfusion h), (fun h => Bool.noConfusion h), (fun h => Bool.noConfusion h), (fun h => Bool.noConfusion h), (fun h => Bool.noConfusion h), (fun h => Bool.noConfusion h), (fun h => Bool.noConfusion h), (fun h => Bool.noConfusion h), (fun h => Bool.noConfusion h), (fun h => Bool.noConfusion h)⟩
    case step =>
      rintro L a w' i ⟨b0, b1, b2, b3, b4, b5, b6, b7, b8, b9, v15, v16, v17, v18, v19, v20, v21, v22, v23, v3, rfl, rfl, HW, HO, HV3, D4, D7, D8, D9, C0, C1, C2, C3, C4, C5, C6, C7, C8, C9⟩ hi
      obtain ⟨hlt, hu, hn⟩ := ready_has [[], [], [1], [2], [0, 3], [], [5], [4, 6], [4, 7], [0, 1, 2, 3, 4, 5, 6, 7, 8]] (by kernel_rfl) (by kernel_rfl) hi
      clear hi
      have hc : i = 0 ∨ i = 1 ∨ i = 2 ∨ i = 3 ∨ i = 4 ∨ i = 5 ∨ i = 6 ∨ i = 7 ∨ i = 8 ∨ i = 9 := (show ∀ i, i < 10 → (i = 0 ∨ i = 1 ∨ i = 2 ∨ i = 3 ∨ i = 4 ∨ i = 5 ∨ i = 6 ∨ i = 7 ∨ i = 8 ∨ i = 9) by decide) i hlt
      clear hlt
      rcases hc with rfl | rfl | rfl | rfl | rfl | rfl | rfl | rfl | rfl | rfl
      · obtain rfl : b0 = false := hu
        clear hn
        refine wpOp_shut rfl (fun K' hK => ?_)
        simp only [Act.put, List.getElem_toArray, List.getElem_cons_succ, List.getElem_cons_zero, List.setIfInBounds_toArray, List.set_cons_zero, List.set_cons_succ]
        obtain rfl : b9 = false := by
          cases b9 with
          | false => rfl
          | true => exact absurd (D4 (D8 (D9 rfl)).2).1 (by simp)
        have hv := HV3 rfl
        subst hv
        go_simp
        refine hK.out _ _ ⟨true, b1, b2, b3, b4, b5, b6, b7, b8, false, (.slice ad1 6 cp1), v16, v17, v18, v19, v20, v21, v22, v23, (.slice ad1 6 cp1), rfl, by simp only [Act.put, List.getElem_toArray, List.getElem_cons_succ, List.getElem_cons_zero, List.setIfInBounds_toArray, List.set_cons_zero, List.set_cons_succ], HW, HO, (fun _ => rfl), (fun h => absurd (D4 h) (by simp)), D7, D8, (fun h => Bool.noConfusion h), (fun _ => rfl), C1, C2, C3, C4, C5, C6, C7, C8, C9⟩
      · obtain rfl : b1 = false := hu
        clear hn
        refine wpOp_shut rfl (fun K' hK => ?_)
        simp only [Act.put, List.getElem_toArray, List.getElem_cons_succ, List.getElem_cons_zero, List.setIfInBounds_toArray, List.set_cons_zero, List.set_cons_succ]
        go_simp
        refine hK.out _ _ ⟨b0, true, b2, b3, b4, b5, b6, b7, b8, b9, v15, (.pointer (some ⟨u0.heap.size, 2, none⟩)), v17, v18, v19, v20, v21, v22, v23, v3, rfl, by simp only [Act.put, List.getElem_toArray, List.getElem_cons_succ, List.getElem_cons_zero, List.setIfInBounds_toArray, List.set_cons_zero, List.set_cons_succ], HW, HO, HV3, D4, D7, D8, D9, C0, (fun _ => rfl), C2, C3, C4, C5, C6, C7, C8, C9⟩
      · obtain rfl : b2 = false := hu
        obtain rfl : b1 = true := hn 1 (by decide)
        clear hn
        refine wpOp_shut rfl (fun K' hK => ?_)
        simp only [Act.put, List.getElem_toArray, List.getElem_cons_succ, List.getElem_cons_zero, List.setIfInBounds_toArray, List.set_cons_zero, List.set_cons_succ]
        have hC1 := (C1 rfl).symm
        subst hC1
        have e2 : w'.cell? ⟨u0.heap.size, 2, none⟩ = some (.int .u32 (xn : Int)) := (cell_of_row w' _ _ _ _ _ ((HW.block _ HGL.out).trans HG1.out)).trans rfl
        go_simp
        refine hK.out _ _ ⟨b0, true, true, b3, b4, b5, b6, b7, b8, b9, v15, (.pointer (some ⟨u0.heap.size, 2, none⟩)), (.int .u32 (xn : Int)), v18, v19, v20, v21, v22, v23, v3, rfl, by simp only [Act.put, List.getElem_toArray, List.getElem_cons_succ, List.getElem_cons_zero, List.setIfInBounds_toArray, List.set_cons_zero, List.set_cons_succ], HW, HO, HV3, D4, D7, D8, D9, C0, C1, (fun _ => rfl), C3, C4, C5, C6, C7, C8, C9⟩
      · obtain rfl : b3 = false := hu
        obtain rfl : b2 = true := hn 2 (by decide)
        clear hn
        refine wpOp_shut rfl (fun K' hK => ?_)
        simp only [Act.put, List.getElem_toArray, List.getElem_cons_succ, List.getElem_cons_zero, List.setIfInBounds_toArray, List.set_cons_zero, List.set_cons_succ]
        have hC2 := (C2 rfl).symm
        subst hC2
        go_simp
        refine (HFX.out w').mono ?_
        rintro e w2 ⟨ua, uc, rfl, ho, hb⟩
        refine hK.out _ _ ⟨b0, b1, true, true, b4, b5, b6, b7, b8, b9, v15, v16, (.int .u32 (xn : Int)), (.slice ua 4 uc), v19, v20, v21, v22, v23, v3, rfl, by simp only [Act.put, List.getElem_toArray, List.getElem_cons_succ, List.getElem_cons_zero, List.setIfInBounds_toArray, List.set_cons_zero, List.set_cons_succ], (HW.trans (hb.mono HW.size)), (fun h => by have ho := HO h; exact ho.below hb), HV3, (fun h => absurd (D4 h) (by simp)), D7, D8, D9, C0, C1, C2, (fun _ _ => ⟨ua, uc, rfl, ho.base (fun k hk => Nat.le_trans HW.size (ho.lt k hk).1)⟩), (fun h => absurd (D4 h).2 (by simp)), C5, C6, (fun h => absurd (D4 (D7 h)).2 (by simp)), (fun h => absurd (D4 (D8 h).2).2 (by simp)), (fun h => absurd (D4 (D8 (D9 h)).2).2 (by simp))⟩
      · obtain rfl : b4 = false := hu
        obtain rfl : b0 = true := hn 0 (by decide)
        obtain rfl : b3 = true := hn 3 (by decide)
        clear hn
        refine wpOp_shut rfl (fun K' hK => ?_)
        simp only [Act.put, List.getElem_toArray, List.getElem_cons_succ, List.getElem_cons_zero, List.setIfInBounds_toArray, List.set_cons_zero, List.set_cons_succ]
        have hC0 := (C0 rfl).symm
        subst hC0
        have ho1 := HO rfl
        obtain ⟨a4, c4, rfl, ho2⟩ := C3 rfl rfl
        rw [if_pos (by rfl)]
        refine op_app (.tmp 15) (.tmp 18) rfl w1.heap.size (.slice ad1 6 cp1) (.slice a4 4 c4) _ _ _ 10 rfl rfl ho1 ho2.rd rfl rfl (by unfold Knot.le32; simp) HW.size ?_
        intro ad cp w7 hoz hg
        simp only [Act.put, List.getElem_toArray, List.getElem_cons_succ, List.getElem_cons_zero, List.setIfInBounds_toArray, List.set_cons_zero, List.set_cons_succ]
        refine hK.out _ _ ⟨true, b1, b2, true, true, b5, b6, b7, b8, b9, (.slice ad1 6 cp1), v16, v17, (.slice a4 4 c4), (.slice ad 10 cp), v20, v21, v22, v23, v3, rfl, by simp only [Act.put, List.getElem_toArray, List.getElem_cons_succ, List.getElem_cons_zero, List.setIfInBounds_toArray, List.set_cons_zero, List.set_cons_succ], (ho1.grown HW hg (Nat.le_refl _) HW.size), (fun h => Bool.noConfusion h), HV3, (fun _ => ⟨rfl, rfl⟩), (fun h => absurd (D7 h) (by simp)), (fun h => absurd (D8 h) (by simp)), D9, C0, C1, C2, (fun _ h => Bool.noConfusion h), (fun _ _ => ⟨_, _, rfl, hoz⟩), C5, C6, (fun h => absurd (D7 h) (by simp)), (fun h => absurd (D8 h).2 (by simp)), (fun h => absurd (D8 (D9 h)).2 (by simp))⟩
      · obtain rfl : b5 = false := hu
        clear hn
        refine wpOp_shut rfl (fun K' hK => ?_)
        simp only [Act.put, List.getElem_toArray, List.getElem_cons_succ, List.getElem_cons_zero, List.setIfInBounds_toArray, List.set_cons_zero, List.set_cons_succ]
        go_simp
        refine hK.out _ _ ⟨b0, b1, b2, b3, b4, true, b6, b7, b8, b9, v15, v16, v17, v18, v19, (.pointer (some ⟨u0.heap.size, 3, none⟩)), v21, v22, v23, v3, rfl, by simp only [Act.put, List.getElem_toArray, List.getElem_cons_succ, List.getElem_cons_zero, List.setIfInBounds_toArray, List.set_cons_zero, List.set_cons_succ], HW, HO, HV3, D4, D7, D8, D9, C0, C1, C2, C3, C4, (fun _ => rfl), C6, C7, C8, C9⟩
      · obtain rfl : b6 = false := hu
        obtain rfl : b5 = true := hn 5 (by decide)
        clear hn
        refine wpOp_shut rfl (fun K' hK => ?_)
        simp only [Act.put, List.getElem_toArray, List.getElem_cons_succ, List.getElem_cons_zero, List.setIfInBounds_toArray, List.set_cons_zero, List.set_cons_succ]
        have hC5 := (C5 rfl).symm
        subst hC5
        have e3 : w'.cell? ⟨u0.heap.size, 3, none⟩ = some (.int .u32 (yn : Int)) := (cell_of_row w' _ _ _ _ _ ((HW.block _ HGL.out).trans HG1.out)).trans rfl
        go_simp
        refine hK.out _ _ ⟨b0, b1, b2, b3, b4, true, true, b7, b8, b9, v15, v16, v17, v18, v19, (.pointer (some ⟨u0.heap.size, 3, none⟩)), (.int .u32 (yn : Int)), v22, v23, v3, rfl, by simp only [Act.put, List.getElem_toArray, List.getElem_cons_succ, List.getElem_cons_zero, List.setIfInBounds_toArray, List.set_cons_zero, List.set_cons_succ], HW, HO, HV3, D4, D7, D8, D9, C0, C1, C2, C3, C4, C5, (fun _ => rfl), C7, C8, C9⟩
      · obtain rfl : b7 = false := hu
        obtain rfl : b4 = true := hn 4 (by decide)
        obtain rfl : b6 = true := hn 6 (by decide)
        clear hn
        refine wpOp_shut rfl (fun K' hK => ?_)
        simp only [Act.put, List.getElem_toArray, List.getElem_cons_succ, List.getElem_cons_zero, List.setIfInBounds_toArray, List.set_cons_zero, List.set_cons_succ]
        have hC0 := (C0 (D4 rfl).1).symm
        subst hC0
        have hC6 := (C6 rfl).symm
        subst hC6
        go_simp
        refine (HFY.out w').mono ?_
        rintro e w2 ⟨ua, uc, rfl, ho, hb⟩
        refine hK.out _ _ ⟨b0, b1, b2, b3, true, b5, true, true, b8, b9, (.slice ad1 6 cp1), v16, v17, v18, v19, v20, (.int .u32 (yn : Int)), (.slice ua 4 uc), v23, v3, rfl, by simp only [Act.put, List.getElem_toArray, List.getElem_cons_succ, List.getElem_cons_zero, List.setIfInBounds_toArray, List.set_cons_zero, List.set_cons_succ], (HW.trans (hb.mono HW.size)), (fun h => Bool.noConfusion h), HV3, D4, (fun _ => rfl), (fun h => absurd (D8 h) (by simp)), D9, C0, C1, C2, (fun _ h => Bool.noConfusion h), (fun h h' => by obtain ⟨x, y, e, ho⟩ := C4 h h'; exact ⟨x, y, e, ho.below hb⟩), C5, C6, (fun _ _ => ⟨ua, uc, rfl, ho.base (fun k hk => Nat.le_trans HW.size (ho.lt k hk).1)⟩), (fun h => absurd (D8 h).1 (by simp)), (fun h => absurd (D8 (D9 h)).1 (by simp))⟩
      · obtain rfl : b8 = false := hu
        obtain rfl : b4 = true := hn 4 (by decide)
        obtain rfl : b7 = true := hn 7 (by decide)
        clear hn
        refine wpOp_shut rfl (fun K' hK => ?_)
        simp only [Act.put, List.getElem_toArray, List.getElem_cons_succ, List.getElem_cons_zero, List.setIfInBounds_toArray, List.set_cons_zero, List.set_cons_succ]
        obtain ⟨a1, c1, rfl, ho1⟩ := C4 rfl rfl
        obtain ⟨a4, c4, rfl, ho2⟩ := C7 rfl rfl
        rw [if_pos (by rfl)]
        refine op_app (.tmp 19) (.tmp 22) rfl w1.heap.size (.slice a1 10 c1) (.slice a4 4 c4) _ _ _ 14 rfl rfl ho1 ho2.rd rfl rfl (by unfold Knot.le32; simp) HW.size ?_
        intro ad cp w7 hoz hg
        simp only [Act.put, List.getElem_toArray, List.getElem_cons_succ, List.getElem_cons_zero, List.setIfInBounds_toArray, List.set_cons_zero, List.set_cons_succ]
        refine hK.out _ _ ⟨b0, b1, b2, b3, true, b5, b6, true, true, b9, v15, v16, v17, v18, (.slice a1 10 c1), v20, v21, (.slice a4 4 c4), (.slice ad 14 cp), v3, rfl, by simp only [Act.put, List.getElem_toArray, List.getElem_cons_succ, List.getElem_cons_zero, List.setIfInBounds_toArray, List.set_cons_zero, List.set_cons_succ], (ho1.grown HW hg (Nat.le_refl _) HW.size), (fun h => Bool.noConfusion h), HV3, D4, D7, (fun _ => ⟨rfl, rfl⟩), (fun h => absurd (D9 h) (by simp)), C0, C1, C2, (fun _ h => Bool.noConfusion h), (fun _ h => Bool.noConfusion h), C5, C6, (fun _ h => Bool.noConfusion h), (fun _ => ⟨_, _, rfl, hoz⟩), (fun h => absurd (D9 h) (by simp))⟩
      · obtain rfl : b9 = false := hu
        obtain rfl : b0 = true := hn 0 (by decide)
        obtain rfl : b1 = true := hn 1 (by decide)
        obtain rfl : b2 = true := hn 2 (by decide)
        obtain rfl : b3 = true := hn 3 (by decide)
        obtain rfl : b4 = true := hn 4 (by decide)
        obtain rfl : b5 = true := hn 5 (by decide)
        obtain rfl : b6 = true := hn 6 (by decide)
        obtain rfl : b7 = true := hn 7 (by decide)
        obtain rfl : b8 = true := hn 8 (by decide)
        clear hn
        refine wpOp_shut rfl (fun K' hK => ?_)
        simp only [Act.put, List.getElem_toArray, List.getElem_cons_succ, List.getElem_cons_zero, List.setIfInBounds_toArray, List.set_cons_zero, List.set_cons_succ]
        have hC0 := (C0 rfl).symm
        subst hC0
        have hC1 := (C1 rfl).symm
        subst hC1
        have hC2 := (C2 rfl).symm
        subst hC2
        have hC5 := (C5 rfl).symm
        subst hC5
        have hC6 := (C6 rfl).symm
        subst hC6
        obtain ⟨a6, c6, rfl, hoz⟩ := C8 rfl
        go_simp
        refine hK.out _ _ ⟨true, true, true, true, true, true, true, true, true, true, (.slice ad1 6 cp1), (.pointer (some ⟨u0.heap.size, 2, none⟩)), (.int .u32 (xn : Int)), v18, v19, (.pointer (some ⟨u0.heap.size, 3, none⟩)), (.int .u32 (yn : Int)), v22, (.slice a6 14 c6), (.slice a6 14 c6), rfl, by simp only [Act.put, List.getElem_toArray, List.getElem_cons_succ, List.getElem_cons_zero, List.setIfInBounds_toArray, List.set_cons_zero, List.set_cons_succ], HW, HO, (fun h => Bool.noConfusion h), D4, D7, D8, (fun _ => rfl), C0, C1, C2, C3, C4, C5, C6, C7, (fun _ => ⟨_, _, rfl, hoz⟩), (fun _ => ⟨_, _, rfl, hoz⟩)⟩
    case fin =>
      rintro L a w' ⟨b0, b1, b2, b3, b4, b5, b6, b7, b8, b9, v15, v16, v17, v18, v19, v20, v21, v22, v23, v3, rfl, rfl, HW, HO, HV3, D4, D7, D8, D9, C0, C1, C2, C3, C4, C5, C6, C7, C8, C9⟩ hr
      have hz : b0 = true ∧ b1 = true ∧ b2 = true ∧ b3 = true ∧ b4 = true ∧ b5 = true ∧ b6 = true ∧ b7 = true ∧ b8 = true ∧ b9 = true := by
        have h := ready_done (by kernel_rfl) (by kernel_rfl) hr
        simpa only [List.all_cons, List.all_nil, id, Bool.and_true, Bool.and_eq_true] using h
      obtain ⟨rfl, rfl, rfl, rfl, rfl, rfl, rfl, rfl, rfl, rfl⟩ := hz
      clear hr
      simp only [Act.put, List.getElem_toArray, List.getElem_cons_succ, List.getElem_cons_zero, List.setIfInBounds_toArray, List.set_cons_zero, List.set_cons_succ]
      obtain ⟨ad2, cp2, rfl, ho2⟩ := C9 rfl
      clear C0 C1 C2 C3 C4 C5 C6 C7 C8 C9 D4 D7 D8 D9 HO HV3
      obtain ⟨w5, hw5⟩ : ∃ z, z = w' := ⟨_, rfl⟩
      rw [← hw5] at HW ho2 ⊢
      clear hw5
      have HW5 := hid HW
      have HO2 := hid ho2
      have HR5 := hid (HRD.out.below (HB1.out.trans (HW.mono HB1.out.size)))
      have e4 : w5.cell? ⟨u0.heap.size, 4, none⟩ = some (.slice sa dn sc) := (cell_of_row w5 _ _ _ _ _ ((HW.block _ HGL.out).trans HG1.out)).trans rfl
      clear HW ho2
      obtain ⟨m, hm⟩ : ∃ m, m = 14 + dn := ⟨_, rfl⟩
      have hz : (124 : Int) - (m : Int) = ((110 - dn : Nat) : Int) := by have := HN.out; omega
      have HM := hid hm
      have HZ := hid hz
      have hsub : IntKind.i64.wrap ((124 : Int) - (m : Int)) = (124 : Int) - (m : Int) := IntWalk.i64_in _ (by have := HN.out; omega)
      have HLX := hid (show (((([B.kind, UInt8.ofNat dn] ++ Knot.le32 B.epoch) ++ Knot.le32 B.a) ++ Knot.le32 B.b) : List UInt8).length = 14 by unfold Knot.le32; simp)
      have HLY := hid (show (((([B.kind, UInt8.ofNat dn] ++ Knot.le32 B.epoch) ++ Knot.le32 B.a) ++ Knot.le32 B.b) ++ B.data : List UInt8).length = m by rw [List.length_append, HLX.out, HDL.out, HM.out])
      have HFR := hid (show ((([B.kind, UInt8.ofNat dn] ++ Knot.le32 B.epoch) ++ Knot.le32 B.a) ++ Knot.le32 B.b) ++ B.data ++ zeros (110 - dn) = B.front by
        unfold Blk.front zeros
        rw [HDL.out]
        simp)
      clear hm hz
      go_wp2_with (first
        | (at_builtin; (refine appw (by rfl) (.tmp 24) (.tmp 26) rfl w1.heap.size (.slice ad2 14 cp2) (.slice sa dn sc) _ B.data (((([B.kind, UInt8.ofNat dn] ++ Knot.le32 B.epoch) ++ Knot.le32 B.a) ++ Knot.le32 B.b) ++ B.data) m rfl rfl HO2.out HR5.out (by have := HM.out; have := HDL.out; have := HLX.out; omega) rfl (by have := HDL.out; have := HLX.out; have := HN.out; omega) HW5.out.size ?_); intro ad3 cp3 w6 ho3 hg3; have HO3 := hid ho3; have HW6 := hid (HO2.out.grown HW5.out hg3 (Nat.le_refl _) HW5.out.size); clear ho3 hg3)
        | (at_builtin; (refine appzw (by rfl) (.tmp 28) (.tmp 31) rfl w1.heap.size (.slice ad3 m cp3) _ (((([B.kind, UInt8.ofNat dn] ++ Knot.le32 B.epoch) ++ Knot.le32 B.a) ++ Knot.le32 B.b) ++ B.data) B.front (110 - dn) 124 rfl rfl HZ.out HO3.out (by have := HLY.out; have := HM.out; have := HN.out; omega) HFR.out.symm (by have := HLY.out; have := HM.out; have := HN.out; omega) HW6.out.size ?_); intro ad4 cp4 w7 ho4 hg4; have HO4 := hid ho4; have HW7 := hid (HO3.out.grown HW6.out hg4 (Nat.le_refl _) HW6.out.size); clear ho4 hg4)
        | (go_at_call 50; refine (refsum_any _ B.front w7 HO4.out.rd (by rw [HFL.out]; omega)).mono ?_; rintro e w8 ⟨rfl, hb8⟩; have HW8 := hid (HW7.out.trans (hb8.mono HW7.out.size)); have HO8 := hid (HO4.out.below hb8); clear hb8)
        | (go_at_call 49; refine (four_any (Crc.sum B.front) w8).mono ?_; rintro e w9 ⟨ua, uc, rfl, ho9, hb9⟩; have HW9 := hid (HW8.out.trans (hb9.mono HW8.out.size)); have HO9 := hid (HO8.out.below hb9); have HR9 := hid ho9.rd; clear ho9 hb9)
        | (at_builtin; (refine appw (by rfl) (.tmp 33) (.tmp 36) rfl w1.heap.size (.slice ad4 124 cp4) (.slice ua 4 uc) B.front (Knot.le32 (Crc.sum B.front)) B.bytes 128 rfl rfl HO9.out HR9.out (by have := HFL.out; unfold Knot.le32; simp; omega) rfl (by have := HFL.out; unfold Knot.le32; simp; omega) HW9.out.size ?_); intro ad5 cp5 w10 ho5 hg5; have HO10 := hid ho5; have HW10 := hid (HO9.out.grown HW9.out hg5 (Nat.le_refl _) HW9.out.size); clear ho5 hg5)
        | fail)
      go_ret
      exact ⟨ad5, cp5, rfl, HO10.out.base (fun k hk => Nat.le_trans HB1.out.size (HO10.out.lt k hk).1), HB1.out.trans (HW10.out.mono HB1.out.size)⟩

end Go.Proofs.Ytbagpckiegpalaa
