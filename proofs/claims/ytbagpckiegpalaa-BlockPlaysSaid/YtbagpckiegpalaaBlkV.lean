/-
  Layer 6: the document's Same of two blocks that are the same.
-/
import Derived.Test.YtbagpckiegpalaaBlkU
import Derived.Test.YtbagpckiegpalaaSame
namespace Go.Proofs.Ytbagpckiegpalaa
open Go.RowKit
set_option linter.unusedVariables false
set_option linter.unusedSimpArgs false

set_option maxRecDepth 100000 in
set_option maxHeartbeats 4000000 in
theorem same6_eq (B : Blk) (ua va : Option Addr) (n uc vc : Nat) (w : World) (hu : Rd w (.slice ua n uc) B.data) (hv : Rd w (.slice va n vc) B.data) :
    Calls Try.prog 16 #[B.val (.slice ua n uc), B.val (.slice va n vc)] w fun e w' => e = .returned (.bool true) ∧ Below w.heap.size w w' := by
  obtain ⟨kd, ep, x, y, dt⟩ := B
  dsimp only at hu hv
  obtain ⟨en, hen⟩ : ∃ en, en = ep.toNat := ⟨_, rfl⟩
  obtain ⟨xn, hxn⟩ : ∃ xn, xn = x.toNat := ⟨_, rfl⟩
  obtain ⟨yn, hyn⟩ : ∃ yn, yn = y.toNat := ⟨_, rfl⟩
  obtain ⟨kn, hkn⟩ : ∃ kn, kn = kd.toNat := ⟨_, rfl⟩
  unfold Blk.val
  dsimp only
  rw [← hen, ← hxn, ← hyn, ← hkn]
  clear hen hxn hyn hkn
  obtain ⟨wa, hwa⟩ : ∃ z, z = w.alloc (.cells #[.int .u8 (kn : Int), .int .u32 (en : Int), .int .u32 (xn : Int), .int .u32 (yn : Int), .slice ua n uc] 34) := ⟨_, rfl⟩
  obtain ⟨wb, hwb⟩ : ∃ z, z = wa.alloc (.cells #[.int .u8 (kn : Int), .int .u32 (en : Int), .int .u32 (xn : Int), .int .u32 (yn : Int), .slice va n vc] 34) := ⟨_, rfl⟩
  have hsa : wa.heap.size = w.heap.size + 1 := by rw [hwa]; show (w.heap.push _).size = _; simp
  have hb1 : Below w.heap.size w wa := by rw [hwa]; exact (Below.refl _ _).alloc (Nat.le_refl _) _
  have hb2 : Below wa.heap.size wa wb := by rw [hwb]; exact (Below.refl _ _).alloc (Nat.le_refl _) _
  have ga : wb.heap[w.heap.size]? = some (.cells #[.int .u8 (kn : Int), .int .u32 (en : Int), .int .u32 (xn : Int), .int .u32 (yn : Int), .slice ua n uc] 34 (0, 0)) := (hb2.block _ (by omega)).trans (by rw [hwa]; exact heap_alloc_new _ _)
  have gb : wb.heap[w.heap.size + 1]? = some (.cells #[.int .u8 (kn : Int), .int .u32 (en : Int), .int .u32 (xn : Int), .int .u32 (yn : Int), .slice va n vc] 34 (0, 0)) := by rw [hwb, ← hsa]; exact heap_alloc_new _ _
  have HB := hid (hb1.trans (hb2.mono (by omega)))
  have HS := hid (same_eq (.slice ua n uc) (.slice va n vc) dt wb (hu.below HB.out) (hv.below HB.out))
  obtain ⟨⟨m0, m1, m2, m3, m4⟩, -, -, -, -, -⟩ := zero5 ga
  obtain ⟨⟨k0, k1, k2, k3, k4⟩, -, -, -, -, -⟩ := zero5 gb
  have HWA := hid hwa
  have HWB := hid hwb
  clear hu hv hwa hwb hsa hb1 hb2 ga gb
  go_enter Try.func16, Try.ntmps16
  go_upto_region 1 with fail
  rw [← HWA.out, ← HWB.out]
  go_wp2_with (first
    | (go_at_call 29; refine (HS.out).mono ?_; rintro e w' ⟨rfl, rfl⟩)
    | fail)
  go_ret
  exact ⟨rfl, HB.out⟩

end Go.Proofs.Ytbagpckiegpalaa
