/-
  Layer 6: Get.
-/
import Derived.Test.YtbagpckiegpalaaBlkG
namespace Go.Proofs.Ytbagpckiegpalaa
open Go.RowKit
set_option linter.unusedVariables false
set_option linter.unusedSimpArgs false

def Sl.getb (s : Sl) (i : Int) : Int × Blk := if (s.read i).2 = 0 then said (s.read i).1 else ((s.read i).2, Blk.zero)

set_option maxRecDepth 100000 in
set_option maxHeartbeats 4000000 in
theorem get_any (base b bn bd : Nat) (wv : Value) (s : Sl) (i : Int) (w : World) (h : SlabAt w base b bn bd wv s) :
    Calls Try.prog 14 #[.pointer (some ⟨b, 0, none⟩), .int .i64 i] w fun e w' => ∃ dv, e = .returned (.tuple #[(s.getb i).2.val dv, .int .i64 (s.getb i).1]) ∧ Own w' w.heap.size dv (s.getb i).2.data ∧ Below w.heap.size w w' := by
  obtain ⟨w1, hw1⟩ : ∃ w1, w1 = w.alloc (.cells #[.int .u8 0, .int .u32 0, .int .u32 0, .int .u32 0, .slice none 0 0] 40) := ⟨_, rfl⟩
  have hb1 : Below w.heap.size w w1 := by rw [hw1]; exact (Below.refl _ _).alloc (Nat.le_refl _) _
  have hg1 : w1.heap[w.heap.size]? = some (.cells #[.int .u8 0, .int .u32 0, .int .u32 0, .int .u32 0, .slice none 0 0] 40 (0, 0)) := by rw [hw1]; exact heap_alloc_new w _
  have HRD := hid (read_all base b bn bd wv s i w1 (h.below hb1))
  have HB1 := hid hb1
  have HG1 := hid hg1
  have HW1 := hid hw1
  clear h hb1 hg1 hw1
  go_enter Try.func14, Try.ntmps14
  go_upto_region 1 with fail
  rw [← HW1.out]
  go_upto_region 2 with (first
    | (go_at_call 31; refine (HRD.out).mono ?_; rintro e w2 ⟨v, rfl, ha⟩)
    | fail)
  have hlt : w.heap.size < w1.heap.size := (Array.getElem?_eq_some_iff.1 HG1.out).1
  have HB2 := hid (HB1.out.trans (ha.below.mono (Nat.le_of_lt hlt)))
  have HG2 := hid ((ha.below.block _ hlt).trans HG1.out)
  have HZ := hid (show (Try.prog.info? 40).map (·.size) = some 5 by kernel_rfl)
  clear hlt
  by_cases he : (s.read i).2 = 0
  · have HE := hid (show s.getb i = said (s.read i).1 by unfold Sl.getb; rw [if_pos he])
    have hl : (s.read i).1.length = 128 := by
      rcases ha with ⟨h, _⟩ | ⟨_, h, _⟩
      · exact absurd he h
      · exact h
    have HS := hid (said_any w2 v (s.read i).1 ha.rd hl)
    rw [he]
    clear he hl ha
    go_wp2_with (first
      | (go_at_call 40; refine (HS.out).mono ?_; rintro e w3 ⟨dv, rfl, hrd, hb3⟩
         have hg3 := (hb3.block _ (Array.getElem?_eq_some_iff.1 HG2.out).1).trans HG2.out
         obtain ⟨a', c', hdv⟩ := rd_slice hrd.rd
         subst hdv
         have HB3 := hid (HB2.out.trans (hb3.mono HB2.out.size))
         have HR3 := hid hrd
         have HG3 := hid hg3
         clear hb3 hrd hg3
         obtain ⟨⟨m0, m1, m2, m3, m4⟩, f0, f1, f2, f3, f4⟩ := zero5 HG3.out
         unfold Blk.val)
      | fail)
    refine bodyPost_ret (results_cellS rfl _ _ _ w.heap.size 40 _ (0, 0) _ rfl rfl (set5_heap HG3.out) Try.underlying40 HZ.out) rfl ?_
    rw [HE.out]
    exact ⟨_, rfl, (Own.to HR3.out (fun k hk => set5_other (owns_ne HR3.out HG3.out (by decide) k hk))).base (fun k hk => Nat.le_trans HB2.out.size (HR3.out.lt k hk).1), set5_below HB3.out (Nat.le_refl _)⟩
  · have HE := hid (show s.getb i = ((s.read i).2, Blk.zero) by unfold Sl.getb; rw [if_neg he])
    obtain ⟨er, her⟩ : ∃ er, er = (s.read i).2 := ⟨_, rfl⟩
    rw [← her] at he HE ⊢
    have hne : (er != 0) = true := by simpa using he
    obtain ⟨⟨m0, m1, m2, m3, m4⟩, f0, f1, f2, f3, f4⟩ := zero5 HG2.out
    clear her he ha
    go_wp2_with fail
    refine bodyPost_ret (results_cellS rfl _ _ _ w.heap.size 40 _ (0, 0) _ rfl rfl (set5_heap HG2.out) Try.underlying40 HZ.out) rfl ?_
    rw [HE.out]
    exact ⟨.slice none 0 0, rfl, Own.nil _ _, set5_below HB2.out (Nat.le_refl _)⟩

end Go.Proofs.Ytbagpckiegpalaa
