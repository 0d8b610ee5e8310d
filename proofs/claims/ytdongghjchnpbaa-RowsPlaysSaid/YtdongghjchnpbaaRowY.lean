/-
  The document's example; matrices that are built of widths.
-/
import Derived.Test.YtdongghjchnpbaaRowX
namespace Go.Proofs.Ytdongghjchnpbaa
open Go.RowKit Go.Shelf
set_option linter.unusedVariables false

def aw0 : Mx := mx0 2 3
def aw1 : Mx := aw0.stand 0 [0, 1] 1
def aw2 : Mx := aw1.stand 1 [0, 1] 2
def aw3 : Mx := aw2.stand 0 [2] 3

theorem RdV.lit (w : World) (cs : Array Value) (t : TypeId) (xs : List Value) (k : Nat) (hk : k = xs.length) (hc : cs.toList = xs) (hm : xs.length ≤ 9223372036854775807) : RdV (w.alloc (.cells cs t)) (.slice (some ⟨w.heap.size, 0, none⟩) k k) xs := by
  subst hk
  refine .inr ⟨w.heap.size, 0, xs.length, rfl, Nat.le_refl _, hm, by simp, fun j x hj => ?_⟩
  rw [cell_of_row _ _ _ _ _ _ (heap_alloc_new w _), Nat.zero_add]
  subst hc
  simpa using hj

theorem aw_1 : aw0.where 1 = none ∧ aw0.room 2 0 aw0.r = some 0 ∧ (aw0.free 0).take 2 = [0, 1] := by decide
theorem aw_2 : aw1.where 2 = none ∧ aw1.room 2 0 aw1.r = some 1 ∧ (aw1.free 1).take 2 = [0, 1] := by decide
theorem aw_3 : aw2.where 3 = none ∧ aw2.room 1 0 aw2.r = some 0 ∧ (aw2.free 0).take 1 = [2] := by decide
theorem aw_4 : aw3.next 1 = some 0 ∧ aw3.fill 0 = [] ∧ aw3.fill 1 = [3] := by decide

set_option maxHeartbeats 1000000 in
theorem awake12_any (w : World) : Calls Try.prog 9 #[] w fun e w' => e = .returned (.bool true) ∧ Below w.heap.size w w' := by
  go_enter Try.func9, Try.ntmps9
  go_wp2_with fail
  refine (new_yes w 2 3 (by omega) (by omega) (by omega) (by omega)).mono ?_
  rintro e w1 ⟨rfl, h1, b1⟩
  have H1 := hid (show MxAt w1 w.heap.size aw0 from h1)
  have B1 := hid b1
  have s1 := h1.lt
  clear h1 b1
  go_wp2_with fail
  refine (place_yes w1 w.heap.size 1 2 0 aw0 H1.out (by omega) (by omega) (by omega) aw_1.1 (by decide) aw_1.2.1).mono ?_
  rintro e w2 ⟨v2, rfl, hv2, h2, k2⟩
  rw [aw_1.2.2] at h2
  have H2 := hid (show MxAt w2 w.heap.size aw1 from h2)
  have K2 := hid k2
  have s2 := k2.size
  clear h2 k2 hv2
  go_wp2_with fail
  refine (place_yes w2 w.heap.size 2 2 1 aw1 H2.out (by omega) (by omega) (by omega) aw_2.1 (by decide) aw_2.2.1).mono ?_
  rintro e w3 ⟨v3, rfl, hv3, h3, k3⟩
  rw [aw_2.2.2] at h3
  have H3 := hid (show MxAt w3 w.heap.size aw2 from h3)
  have K3 := hid k3
  have s3 := k3.size
  clear h3 k3 hv3
  go_wp2_with fail
  refine (place_yes w3 w.heap.size 3 1 0 aw2 H3.out (by omega) (by omega) (by omega) aw_3.1 (by decide) aw_3.2.1).mono ?_
  rintro e w4 ⟨v4, rfl, hv4, h4, k4⟩
  rw [aw_3.2.2] at h4 hv4
  have H4 := hid (show MxAt w4 w.heap.size aw3 from h4)
  have K4 := hid k4
  have s4 := k4.size
  have R4 := hid (show RdV w4 v4 ([2].map iv) from RdV.of_own hv4)
  clear h4 k4 hv4
  go_wp2_with fail
  refine (next_any w4 w.heap.size aw3 1 H4.out).mono ?_
  rintro e w5 ⟨rfl, b5⟩
  rw [aw_4.1]
  have B5 := hid b5
  have s5 := b5.size
  have H5 := hid (H4.out.below b5 H4.out.lt)
  have R5 := hid (R4.out.all b5)
  clear b5
  unfold nextVal
  go_wp2_with fail
  have ba : Below w5.heap.size w5 (w5.alloc (.cells #[.int .i64 2] 3)) := (Below.refl _ _).alloc (Nat.le_refl _) _
  refine (sameints_any (w5.alloc (.cells #[.int .i64 2] 3)) v4 (.slice (some ⟨w5.heap.size, 0, none⟩) 1 1) [2] [2] (R5.out.all ba) (RdV.lit w5 _ _ _ _ rfl rfl (by simp))).mono ?_
  rintro e w6 ⟨rfl, b6⟩
  have B6 := hid (ba.trans (b6.mono ba.size))
  have s6 := B6.out.size
  have H6 := hid (H5.out.below B6.out H5.out.lt)
  clear ba b6
  rw [show decide (([2] : List Nat) = [2]) = true from rfl]
  go_wp2_with fail
  refine (fill_any w6 w.heap.size 0 aw3 H6.out (by decide)).mono ?_
  rintro e w7 ⟨v7, rfl, hv7, b7⟩
  rw [aw_4.2.1] at hv7
  obtain ⟨a7, c7, rfl, -, hc7⟩ := (RdV.of_own hv7).len
  have B7 := hid b7
  have s7 := b7.size
  have H7 := hid (H6.out.below b7 H6.out.lt)
  clear b7 hv7
  rw [show (List.map uv []).length = 0 from rfl]
  go_wp2_with fail
  refine (fill_any w7 w.heap.size 1 aw3 H7.out (by decide)).mono ?_
  rintro e w8 ⟨v8, rfl, hv8, b8⟩
  rw [aw_4.2.2] at hv8
  have R8 := hid (show RdV w8 v8 ([3].map uv) from RdV.of_own hv8)
  have B8 := hid b8
  have s8 := b8.size
  clear b8 hv8
  go_wp2_with fail
  have bb : Below w8.heap.size w8 (w8.alloc (.cells #[.int .u32 3] 33)) := (Below.refl _ _).alloc (Nat.le_refl _) _
  refine (same_any (w8.alloc (.cells #[.int .u32 3] 33)) v8 (.slice (some ⟨w8.heap.size, 0, none⟩) 1 1) [3] [3] (R8.out.all bb) (RdV.lit w8 _ _ _ _ rfl rfl (by simp))).mono ?_
  rintro e w9 ⟨rfl, b9⟩
  have B9 := hid (bb.trans (b9.mono bb.size))
  clear bb b9
  rw [show decide (([3] : List Nat) = [3]) = true from rfl]
  go_wp2
  go_ret
  refine ⟨rfl, ?_⟩
  have k : Keeps (fun i => i = w.heap.size) w1 w4 := (K2.out.trans K3.out).trans K4.out
  have b14 : Below w.heap.size w w4 := B1.out.trans (k.below (by omega) (fun i hi => by omega))
  exact b14.trans ((B5.out.mono (by omega)).trans ((B6.out.mono (by omega)).trans ((B7.out.mono (by omega)).trans ((B8.out.mono (by omega)).trans (B9.out.mono (by omega))))))

end Go.Proofs.Ytdongghjchnpbaa
