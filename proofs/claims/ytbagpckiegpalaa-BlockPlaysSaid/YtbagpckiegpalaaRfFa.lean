/-
  Layer 6, the document's: a number as four bytes, four bytes as a number.
-/
import Derived.Test.YtbagpckiegpalaaBlkW
import Derived.Test.YtbagpckiegpalaaRefSum
import Derived.BigQuiet
namespace Go.Proofs.Ytbagpckiegpalaa
open Go.RowKit
set_option linter.unusedVariables false
set_option linter.unusedSimpArgs false

theorem num_sum (l : List UInt8) : (Knot.num l 4).toNat = (l.getD 0 0).toNat + 256 * (l.getD 1 0).toNat + 65536 * (l.getD 2 0).toNat + 16777216 * (l.getD 3 0).toNat := by
  obtain ⟨x0, h0⟩ : ∃ x, x = l.getD 0 0 := ⟨_, rfl⟩
  obtain ⟨x1, h1⟩ : ∃ x, x = l.getD 1 0 := ⟨_, rfl⟩
  obtain ⟨x2, h2⟩ : ∃ x, x = l.getD 2 0 := ⟨_, rfl⟩
  obtain ⟨x3, h3⟩ : ∃ x, x = l.getD 3 0 := ⟨_, rfl⟩
  have b0 := x0.toNat_lt
  have b1 := x1.toNat_lt
  have b2 := x2.toNat_lt
  have b3 := x3.toNat_lt
  rw [← h0, ← h1, ← h2, ← h3]
  obtain ⟨n, hn⟩ : ∃ n, n = x0.toNat + 256 * x1.toNat + 65536 * x2.toNat + 16777216 * x3.toNat := ⟨_, rfl⟩
  have hlt : n < 4294967296 := by omega
  have hs : (BitVec.ofNat 32 n).toNat = n := by simp [Nat.mod_eq_of_lt hlt]
  have hb := Knot.byteOf_val (BitVec.ofNat 32 n)
  rw [hs] at hb
  have e0 : Knot.byteOf (BitVec.ofNat 32 n) 0 = x0 := UInt8.toNat_inj.1 (by have := hb 0; omega)
  have e1 : Knot.byteOf (BitVec.ofNat 32 n) 1 = x1 := UInt8.toNat_inj.1 (by have := hb 1; omega)
  have e2 : Knot.byteOf (BitVec.ofNat 32 n) 2 = x2 := UInt8.toNat_inj.1 (by have := hb 2; omega)
  have e3 : Knot.byteOf (BitVec.ofNat 32 n) 3 = x3 := UInt8.toNat_inj.1 (by have := hb 3; omega)
  rw [← hn, Knot.num_congr l (Knot.le32 (BitVec.ofNat 32 n)) 4 (fun j hj => by
    rw [Knot.le32_get _ _ hj]
    match j, hj with
    | 0, _ => rw [e0, h0]
    | 1, _ => rw [e1, h1]
    | 2, _ => rw [e2, h2]
    | 3, _ => rw [e3, h3]), Knot.num_le32, hs]

set_option maxHeartbeats 1000000 in
theorem four_any (s : BitVec 32) (w : World) :
    Calls Try.prog 49 #[.int .u32 (s.toNat : Int)] w fun e w' => ∃ a c, e = .returned (.slice a 4 c) ∧ Own w' w.heap.size (.slice a 4 c) (Knot.le32 s) ∧ Below w.heap.size w w' := by
  obtain ⟨n, hn⟩ : ∃ n, n = s.toNat := ⟨_, rfl⟩
  have hlt : n < 4294967296 := by rw [hn]; exact s.isLt
  have hb := Knot.byteOf_val s
  rw [← hn] at hb ⊢
  have HB := hid hb
  have HN := hid hn
  clear hb hn
  go_enter Try.func49, Try.ntmps49
  go_wp2_with fail
  go_ret
  refine ⟨_, _, rfl, ?_, (Below.refl _ _).alloc (Nat.le_refl _) _⟩
  refine Own.lit w w.heap.size _ (Knot.le32 s) 4 rfl ?_ (by unfold maxLen Knot.le32; simp) (Nat.le_refl _)
  have h0 := HB.out 0
  have h1 := HB.out 1
  have h2 := HB.out 2
  have h3 := HB.out 3
  simp only [Knot.le32, List.map_cons, List.map_nil, bv]
  rw [show (n : Int) % 256 = ((Knot.byteOf s 0).toNat : Int) by omega, show (n : Int) / 256 % 256 = ((Knot.byteOf s 1).toNat : Int) by omega, show (n : Int) / 65536 % 256 = ((Knot.byteOf s 2).toNat : Int) by omega, show (n : Int) / 16777216 = ((Knot.byteOf s 3).toNat : Int) by omega]

theorem at_mod (x0 x1 x2 x3 : Nat) (h0 : x0 < 256) (h1 : x1 < 256) (h2 : x2 < 256) (h3 : x3 < 256) : (((x0 : Int) + 256 * ((x1 : Int) % 4294967296) + 65536 * ((x2 : Int) % 4294967296)) % 4294967296 + 16777216 * ((x3 : Int) % 4294967296) % 4294967296) % 4294967296 = (x0 : Int) + 256 * (x1 : Int) + 65536 * (x2 : Int) + 16777216 * (x3 : Int) := by omega

theorem w64n (z : Int) (m : Nat) (h : z = (m : Int)) (hm : m ≤ 9223372036854775807) : wrap64 z = (m : Int) := by
  subst h
  unfold wrap64
  omega

set_option maxHeartbeats 2000000 in
theorem at_any (v : Value) (l : List UInt8) (i : Nat) (w : World) (h : Rd w v l) (hi : i + 4 ≤ l.length) :
    Calls Try.prog 51 #[.agg #[v], .int .i64 (i : Int)] w fun e w' => e = .returned (.int .u32 ((Knot.num (l.drop i) 4).toNat : Int)) ∧ Below w.heap.size w w' := by
  obtain ⟨b, off, cap, rfl, hc1, hc2, hb, hc⟩ := h.pos (by omega)
  obtain ⟨L, hL⟩ : ∃ L, L = l.length := ⟨_, rfl⟩
  have hg : ∀ j, (l.drop i).getD j 0 = l.getD (i + j) 0 := fun j => by simp [List.getD_eq_getElem?_getD, List.getElem?_drop]
  obtain ⟨i1, h1⟩ : ∃ k, k = i + 1 := ⟨_, rfl⟩
  obtain ⟨i2, h2⟩ : ∃ k, k = i + 2 := ⟨_, rfl⟩
  obtain ⟨i3, h3⟩ : ∃ k, k = i + 3 := ⟨_, rfl⟩
  obtain ⟨x0, hx0⟩ : ∃ x, x = (l.getD i 0).toNat := ⟨_, rfl⟩
  obtain ⟨x1, hx1⟩ : ∃ x, x = (l.getD i1 0).toNat := ⟨_, rfl⟩
  obtain ⟨x2, hx2⟩ : ∃ x, x = (l.getD i2 0).toNat := ⟨_, rfl⟩
  obtain ⟨x3, hx3⟩ : ∃ x, x = (l.getD i3 0).toNat := ⟨_, rfl⟩
  have b0 : x0 < 256 := by rw [hx0]; exact (l.getD i 0).toNat_lt
  have b1 : x1 < 256 := by rw [hx1]; exact (l.getD i1 0).toNat_lt
  have b2 : x2 < 256 := by rw [hx2]; exact (l.getD i2 0).toNat_lt
  have b3 : x3 < 256 := by rw [hx3]; exact (l.getD i3 0).toNat_lt
  have HV := hid (show ((Knot.num (l.drop i) 4).toNat : Int) = (x0 : Int) + 256 * (x1 : Int) + 65536 * (x2 : Int) + 16777216 * (x3 : Int) by
    rw [num_sum, hg, hg, hg, hg, hx0, hx1, hx2, hx3, h1, h2, h3]
    simp)
  rw [← hL] at hi hc1 ⊢
  unfold maxLen at hc2
  have c0 := hc i (by omega)
  have c1 := hc i1 (by omega)
  have c2 := hc i2 (by omega)
  have c3 := hc i3 (by omega)
  rw [bv_eq, ← hx0] at c0
  rw [bv_eq, ← hx1] at c1
  rw [bv_eq, ← hx2] at c2
  rw [bv_eq, ← hx3] at c3
  have k1 := hid (show wrap64 ((i : Int) + 1) = (i1 : Int) from w64n _ _ (by omega) (by omega))
  have k2 := hid (show wrap64 ((i : Int) + 2) = (i2 : Int) from w64n _ _ (by omega) (by omega))
  have k3 := hid (show wrap64 ((i : Int) + 3) = (i3 : Int) from w64n _ _ (by omega) (by omega))
  have l0 : i < L := by omega
  have l1 : i1 < L := by omega
  have l2 : i2 < L := by omega
  have l3 : i3 < L := by omega
  obtain ⟨w1, hw1⟩ : ∃ z, z = w.alloc (.cells #[.slice (some ⟨b, off, none⟩) L cap] 110) := ⟨_, rfl⟩
  have hb1 : Below w.heap.size w w1 := by rw [hw1]; exact (Below.refl _ _).alloc (Nat.le_refl _) _
  have hcc := fun (j : Nat) (V : Value) (h : w.cell? ⟨b, off + j, none⟩ = some V) => (hb1.cell (p := ⟨b, off + j, none⟩) hb).trans h
  have d0 := hcc i _ c0
  have d1 := hcc i1 _ c1
  have d2 := hcc i2 _ c2
  have d3 := hcc i3 _ c3
  have dz : w1.cell? ⟨w.heap.size, 0, none⟩ = some (.slice (some ⟨b, off, none⟩) L cap) := (cell_of_row _ _ _ _ _ _ (by rw [hw1]; exact heap_alloc_new _ _)).trans rfl
  have HB1 := hid hb1
  have Q0 := hid b0
  have Q1 := hid b1
  have Q2 := hid b2
  have Q3 := hid b3
  clear b0 b1 b2 b3 hi hc1 hb hc hc2 h1 h2 h3 hx0 hx1 hx2 hx3 hL c0 c1 c2 c3 hcc hg h hb1
  go_enter Try.func51, Try.ntmps51
  go_upto_region 1 with fail
  rw [← hw1]
  clear hw1
  have k1 := k1.out
  have k2 := k2.out
  have k3 := k3.out
  go_quiet (fail)
  go_wp2_with fail
  go_ret
  exact ⟨ret_int ((at_mod x0 x1 x2 x3 Q0.out Q1.out Q2.out Q3.out).trans HV.out.symm), below_behindB HB1.out nq⟩

end Go.Proofs.Ytbagpckiegpalaa
