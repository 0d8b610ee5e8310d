/-
  Layer 9: the document's Land: its contract.
-/
import Derived.Test.YtecnopopmonlpaaRefA9
import Derived.Deep.RegionLaw
namespace Go.Proofs.Ytecnopopmonlpaa
open Go.RowKit
set_option linter.unusedVariables false

set_option maxHeartbeats 1000000 in
theorem refland_nil (id : Nat) (w : World) :
    Calls Try.prog 14 #[.pointer none, .int .u64 (id : Int)] w fun e w' => e = .returned (.tuple #[.agg #[.int .i64 0, .slice none 0 0], .int .i64 6]) ∧ Below w.heap.size w w' := by
  have hb0 : Below w.heap.size w (w.alloc (.cells #[.int .i64 0, .slice none 0 0] 34)) := (Below.refl _ _).alloc (Nat.le_refl _) _
  have HB0 := hid hb0
  obtain ⟨w0, hw0⟩ : ∃ w0, w0 = w.alloc (.cells #[.int .i64 0, .slice none 0 0] 34) := ⟨_, rfl⟩
  have g5 : w0.heap[w.heap.size]? = some (.cells #[.int .i64 0, .slice none 0 0] 34 (0, 0)) := by rw [hw0]; exact heap_alloc_new w _
  have HG5 := hid g5
  rw [← hw0] at HB0
  have x0 : w0.cell? ⟨w.heap.size, 0, none⟩ = some (.int .i64 0) := (cell_of_row _ _ _ _ _ _ g5).trans rfl
  have x1 : w0.cell? ⟨w.heap.size, 1, none⟩ = some (.slice none 0 0) := (cell_of_row _ _ _ _ _ _ g5).trans rfl
  have z0 : w0.frozen? ⟨w.heap.size, 0, none⟩ = false := frozen_of_row _ _ _ _ _ g5
  have z1 : w0.frozen? ⟨w.heap.size, 1, none⟩ = false := frozen_of_row _ _ _ _ _ g5
  clear hb0 g5
  go_enter Try.func14, Try.ntmps14
  go_wp2_with fail
  rw [← hw0]
  clear hw0
  refine (reffind_nil id w0).mono ?_
  rintro e w5 ⟨rfl, rfl⟩
  go_wp2_with fail
  refine bodyPost_ret (results_cell2' rfl _ _ _ w.heap.size 34 #[.int .i64 0, .slice none 0 0] (0, 0) _ rfl rfl (set2 HG5.out) Try.underlying34 (by kernel_rfl)) rfl ⟨rfl, ?_⟩
  exact (HB0.out.setCell (by simp) _).setCell (by simp) _

set_option maxHeartbeats 1000000 in
theorem refland_no (base : B9) (b id : Nat) (s : Ar) (w : World) (h : RefAirAt w base b s) (hx : ∀ x ∈ s.l, x.id ≠ id) :
    Calls Try.prog 14 #[.pointer (some ⟨b, 0, none⟩), .int .u64 (id : Int)] w fun e w' => e = .returned (.tuple #[.agg #[.int .i64 0, .slice none 0 0], .int .i64 6]) ∧ Below w.heap.size w w' := by
  have HX := hid hx
  have hb0 : Below w.heap.size w (w.alloc (.cells #[.int .i64 0, .slice none 0 0] 34)) := (Below.refl _ _).alloc (Nat.le_refl _) _
  have H := hid (h.below hb0)
  have HB0 := hid hb0
  obtain ⟨w0, hw0⟩ : ∃ w0, w0 = w.alloc (.cells #[.int .i64 0, .slice none 0 0] 34) := ⟨_, rfl⟩
  have HG := hid (show w0.heap[w.heap.size]? = some (.cells #[.int .i64 0, .slice none 0 0] 34 (0, 0)) by rw [hw0]; exact heap_alloc_new w _)
  have hlt : w.heap.size < w0.heap.size := by rw [hw0]; simp
  rw [← hw0] at H HB0
  clear hx h hb0
  go_enter Try.func14, Try.ntmps14
  go_wp2_with fail
  rw [← hw0]
  clear hw0
  refine (reffind_any base b id s w0 H.out).mono ?_
  rintro e w5 ⟨r, rfl, hf, hb5⟩
  obtain rfl := hf.no HX.out
  have HB5 := hid hb5
  have g5 := (hb5.block _ hlt).trans HG.out
  have HG5 := hid g5
  have x0 : w5.cell? ⟨w.heap.size, 0, none⟩ = some (.int .i64 0) := (cell_of_row _ _ _ _ _ _ g5).trans rfl
  have x1 : w5.cell? ⟨w.heap.size, 1, none⟩ = some (.slice none 0 0) := (cell_of_row _ _ _ _ _ _ g5).trans rfl
  have z0 : w5.frozen? ⟨w.heap.size, 0, none⟩ = false := frozen_of_row _ _ _ _ _ g5
  have z1 : w5.frozen? ⟨w.heap.size, 1, none⟩ = false := frozen_of_row _ _ _ _ _ g5
  clear hf hb5 g5
  go_wp2_with fail
  refine bodyPost_ret (results_cell2' rfl _ _ _ w.heap.size 34 #[.int .i64 0, .slice none 0 0] (0, 0) _ rfl rfl (set2 HG5.out) Try.underlying34 (by kernel_rfl)) rfl ⟨rfl, ?_⟩
  exact ((HB0.out.trans (HB5.out.mono (by omega))).setCell (by simp) _).setCell (by simp) _

set_option maxRecDepth 100000 in
set_option maxHeartbeats 4000000 in
theorem refland_yes (base : B9) (b i : Nat) (s : Ar) (x : Fl) (w : World) (h : RefAirAt w base b s) (hb : base.n ≤ w.heap.size) (hx : s.l[i]? = some x) :
    Calls Try.prog 14 #[.pointer (some ⟨b, 0, none⟩), .int .u64 (x.id : Int)] w fun e w' => ∃ va vc, e = .returned (.tuple #[.agg #[.int .i64 x.to, .slice va x.t.length vc], .int .i64 0]) ∧ Own w' base.n (.slice va x.t.length vc) x.t ∧ RefAirAt w' base b (s.fin i) ∧ KT refTs base.n w w' := by
  have hi : i < s.l.length := (List.getElem?_eq_some_iff.1 hx).1
  have HX := hid hx
  have HS := hid (show s.ok by obtain ⟨_, _, hh⟩ := h; exact hh.ok)
  have hn : s.l.length ≤ 2048 := by obtain ⟨_, _, h3, h4, _⟩ := HS.out; omega
  obtain ⟨w0, hw0⟩ : ∃ w0, w0 = w.alloc (.cells #[.int .i64 0, .slice none 0 0] 34) := ⟨_, rfl⟩
  have hb0 : Below w.heap.size w w0 := by rw [hw0]; exact (Below.refl _ _).alloc (Nat.le_refl _) _
  have H := hid (h.below hb0)
  have HB0 := hid hb0
  have HG := hid (show w0.heap[w.heap.size]? = some (.cells #[.int .i64 0, .slice none 0 0] 34 (0, 0)) by rw [hw0]; exact heap_alloc_new w _)
  have hlt : w0.heap.size = w.heap.size + 1 := by rw [hw0]; simp
  clear hx h hb0
  go_enter Try.func14, Try.ntmps14
  go_wp2_with fail
  rw [← hw0]
  clear hw0
  refine (reffind_any base b x.id s w0 H.out).mono ?_
  rintro e w5 ⟨r, rfl, hf, hb5⟩
  obtain rfl := hf.yes HS.out.1 HX.out
  have HB5 := hid hb5
  have hs5 := hb5.size
  have HG5 := hid ((hb5.block _ (show w.heap.size < w0.heap.size by omega)).trans HG.out)
  have h5 := H.out.below hb5
  obtain ⟨fv, PF, hh⟩ := h5
  obtain ⟨c0, c1, c2, hfz⟩ := hh.cells
  obtain ⟨g, cap, va, vc, rfl, hc1, hc2, ho, hfr, hg, f0, f1, f2⟩ := hh.pick HX.out
  clear hfr
  have HO := hid ho
  have H5 := hid hh
  have hi0 : ¬ (i : Int) < 0 := by omega
  have hi2 : (i : Int) < (s.l.length : Int) := by omega
  clear hf hb5 hfz hh ho
  go_wp2_with fail
  obtain ⟨w7, hw7⟩ : ∃ w7, w7 = w5.alloc (.cells #[.int .i64 x.to, .slice va x.t.length vc] 34) := ⟨_, rfl⟩
  have hb7 : Below w5.heap.size w5 w7 := by rw [hw7]; exact (Below.refl _ _).alloc (Nat.le_refl _) _
  have HGB := hid (show w7.heap[w5.heap.size]? = some (.cells #[.int .i64 x.to, .slice va x.t.length vc] 34 (0, 0)) by rw [hw7]; exact heap_alloc_new w5 _)
  have hs7 : w7.heap.size = w5.heap.size + 1 := by rw [hw7]; simp
  rw [← hw7]
  have H7 := hid (H5.out.below hb7)
  have HO7 := hid (HO.out.below hb7)
  have HB7 := hid hb7
  have HG7 := hid ((hb7.block _ (show w.heap.size < w5.heap.size by omega)).trans HG5.out)
  clear hw7 hb7 c0 c1 c2 f0 f1 f2
  obtain ⟨xs, hxs⟩ : ∃ xs, xs = PF.flatMap fcells := ⟨_, rfl⟩
  have HXS := hid hxs
  have HROW := hid (show w7.ownsRow base.n 50 3 (.slice (some ⟨g, 0, none⟩) s.l.length cap) s.l.length xs by have := H7.out.row; rw [H7.out.len] at this; rw [hxs]; exact this)
  have HXL := hid (show xs.length = s.l.length * 3 from HROW.out.1)
  have HONE := hid (show ∀ u ∈ xs, u.oneCell' = true by rw [hxs]; exact one_fcells H7.out.own)
  clear hxs
  obtain ⟨d0, d1, d2, dz⟩ := H7.out.cells
  have hbA : Below w7.heap.size w7 (w7.alloc (.cells #[] 50)).drew := below_dr ((Below.refl _ _).alloc (Nat.le_refl _) _)
  have HBA := hid hbA
  have hbs := H7.out.lt
  have e2 : w7.drew.cell? ⟨b, 2, none⟩ = some (.slice (some ⟨g, 0, none⟩) s.l.length cap) := d2
  have y2 : (w7.alloc (.cells #[] 50)).drew.cell? ⟨b, 2, none⟩ = some (.slice (some ⟨g, 0, none⟩) s.l.length cap) := (hbA.cell (p := ⟨b, 2, none⟩) hbs).trans d2
  have HE := hid (show (w7.alloc (.cells #[] 50)).drew.ownsRow w7.heap.size 50 3 (.slice (some ⟨w7.heap.size, 0, none⟩) 0 0) 0 [] from World.ownsRow_made w7 #[] 0 (Nat.le_refl _) (Nat.zero_le _) rfl)
  have HRA := hid (owns_below HROW.out hbA)
  obtain ⟨A, hA, hAA⟩ : ∃ A : Addr, (if cap = i + 1 then some (⟨g, 0, none⟩ : Addr) else some ⟨g, (i + 1) * 3, none⟩) = some A ∧ (A = ⟨g, (i + 1) * 3, none⟩ ∨ xs.drop ((i + 1) * 3) = []) := by
    by_cases hc : cap = i + 1
    · exact ⟨⟨g, 0, none⟩, by simp [hc], .inr (List.drop_eq_nil_of_le (by rw [HXL.out]; omega))⟩
    · exact ⟨⟨g, (i + 1) * 3, none⟩, by simp [hc], .inl rfl⟩
  have HS1 := hid (show SrcC (w7.alloc (.cells #[] 50)).drew (.slice (some ⟨g, 0, none⟩) i cap) i (xs.take (i * 3)) from SrcC.part HRA.out 0 i cap _ ⟨g, 0, none⟩ (.inl (by simp)) (by simp))
  have HS2 := hid (show ∀ W, Below w7.heap.size w7 W → SrcC W (.slice (some A) (s.l.length - (i + 1)) (cap - (i + 1))) (s.l.length - (i + 1)) (xs.drop ((i + 1) * 3)) from fun W hW => SrcC.part (owns_below HROW.out hW) (i + 1) (s.l.length - (i + 1)) _ _ A hAA (by rw [List.take_of_length_le]; rw [List.length_drop, HXL.out]; omega))
  have HL1 := hid (show (xs.take (i * 3)).length = i * 3 by rw [List.length_take, HXL.out]; omega)
  have HL2 := hid (show (xs.drop ((i + 1) * 3)).length = (s.l.length - (i + 1)) * 3 by rw [List.length_drop, HXL.out]; omega)
  have HN1 := hid (show ∀ u ∈ xs.take (i * 3), u.oneCell' = true from fun u hu => HONE.out u (List.mem_of_mem_take hu))
  have HN2 := hid (show ∀ u ∈ xs.drop ((i + 1) * 3), u.oneCell' = true from fun u hu => HONE.out u (List.mem_of_mem_drop hu))
  have q1 : 0 ≤ (i : Int) + 1 := by omega
  have q2 : (i : Int) + 1 ≤ (s.l.length : Int) := by omega
  have q3 : (i : Int) ≤ (cap : Int) := by omega
  have q4 : IntKind.i64.wrap ((i : Int) + 1) = (i : Int) + 1 := by unfold IntKind.wrap; simp [IntKind.bits, IntKind.signed] <;> omega
  have q5 : ((i : Int) + 1).toNat = i + 1 := by omega
  have q6 : 0 ≤ (i : Int) := by omega
  have HHD := hid H7.out.head
  have HS7 := hid hs7
  have HA := hid hA
  clear d0 d1 d2 dz hbA hAA hs7
  have HFIN := hid (show ∀ w9 ad2 cp2, Below w7.heap.size w7 w9 → w9.ownsRow w7.heap.size 50 3 (.slice ad2 (s.l.length - 1) cp2) (s.l.length - 1) (xs.take (i * 3) ++ xs.drop ((i + 1) * 3)) →
      RefAirAt (w9.setCell ⟨b, 2, none⟩ (.slice ad2 (s.l.length - 1) cp2)) base b (s.fin i) ∧ KT refTs base.n w (w9.setCell ⟨b, 2, none⟩ (.slice ad2 (s.l.length - 1) cp2)) ∧
      (w9.setCell ⟨b, 2, none⟩ (.slice ad2 (s.l.length - 1) cp2)).heap[w5.heap.size]? = some (.cells #[.int .i64 x.to, .slice va x.t.length vc] 34 (0, 0)) ∧
      (w9.setCell ⟨b, 2, none⟩ (.slice ad2 (s.l.length - 1) cp2)).heap[w.heap.size]? = some (.cells #[.int .i64 0, .slice none 0 0] 34 (0, 0)) ∧
      Own (w9.setCell ⟨b, 2, none⟩ (.slice ad2 (s.l.length - 1) cp2)) base.n (.slice va x.t.length vc) x.t from fun w9 ad2 cp2 hB ho => by
    have hs7 := HS7.out
    have hlb : base.n ≤ w7.heap.size := by omega
    obtain ⟨q1, q2⟩ := arv_drop (i := i) H7.out hi hlb (KT.of_below hB hlb) (V := .slice ad2 (s.l.length - 1) cp2) (by rw [← HXS.out]; exact owns_base ho hlb) (by decide) (by decide) (by decide)
    refine ⟨⟨_, _, q1⟩, ((((KT.of_below HB0.out hb).trans (KT.of_below HB5.out (by omega))).trans (KT.of_below HB7.out (by omega))).trans q2), q2.block HGB.out (by decide), q2.block HG7.out (by decide), HO7.out.kt q2 (by decide)⟩)
  go_region_law (first
    | (refine appsst (by rfl) 51 50 (.tmp 23) (.tmp 29) rfl w7.heap.size 3 40 _ Try.underlying51 infoRF rfl (by decide) (.slice (some ⟨w7.heap.size, 0, none⟩) 0 0) (.slice (some ⟨g, 0, none⟩) i cap) 0 i i [] (xs.take (i * 3)) rfl rfl HE.out HS1.out HL1.out HN1.out (by omega) (by omega) (by omega) HBA.out.size ?_; intro ad cp w8 ho hg8; rw [List.nil_append] at ho; have HO8 := hid ho; have hk8 := own_grown9 HE.out hg8 HBA.out.size; have HB8 := hid (HBA.out.trans hk8.below); have HK8 := hid hk8; have y8 : w8.cell? ⟨b, 2, none⟩ = some (.slice (some ⟨g, 0, none⟩) s.l.length cap) := (cell_of_row _ _ _ _ _ _ ((HB8.out.block b hbs).trans HHD.out)).trans rfl; clear ho hg8 hk8)
    | (refine appsst (by rfl) 51 50 (.tmp 30) (.tmp 37) rfl w7.heap.size 3 40 _ Try.underlying51 infoRF rfl (by decide) (.slice ad i cp) (.slice (some A) (s.l.length - (i + 1)) (cap - (i + 1))) i (s.l.length - (i + 1)) (s.l.length - 1) (xs.take (i * 3)) (xs.drop ((i + 1) * 3)) rfl rfl HO8.out (HS2.out _ HB8.out) HL2.out HN2.out (by omega) (by omega) (by omega) HB8.out.size ?_; intro ad2 cp2 w9 ho hg9; have HO9 := hid ho; have HK9 := hid (own_grown9 HO8.out hg9 HB8.out.size); have HB9 := hid (HB8.out.trans HK9.out.below); have hd9 := (HB9.out.block b hbs).trans HHD.out; have y9 : w9.cell? ⟨b, 2, none⟩ = some (.slice (some ⟨g, 0, none⟩) s.l.length cap) := (cell_of_row _ _ _ _ _ _ hd9).trans rfl; have z9 : w9.frozen? ⟨b, 2, none⟩ = false := frozen_of_row _ _ _ _ _ hd9; clear ho hg9 hd9)
    | fail)
  all_goals
    obtain ⟨q1, q2, q3, q4, q5⟩ := HFIN.out _ _ _ HB9.out HO9.out
    obtain ⟨wz, hwz⟩ : ∃ wz, wz = w9.setCell ⟨b, 2, none⟩ (.slice ad2 (s.l.length - 1) cp2) := ⟨_, rfl⟩
    rw [← hwz] at q1 q2 q3 q4 q5
    rw [← hwz]
    have HQ1 := hid q1
    have HQ2 := hid q2
    have HQ4 := hid q4
    have HQ5 := hid q5
    have m0 : wz.cell? ⟨w5.heap.size, 0, none⟩ = some (.int .i64 x.to) := (cell_of_row _ _ _ _ _ _ q3).trans rfl
    have m1 : wz.cell? ⟨w5.heap.size, 1, none⟩ = some (.slice va x.t.length vc) := (cell_of_row _ _ _ _ _ _ q3).trans rfl
    have n0 : wz.cell? ⟨w.heap.size, 0, none⟩ = some (.int .i64 0) := (cell_of_row _ _ _ _ _ _ q4).trans rfl
    have n1 : wz.cell? ⟨w.heap.size, 1, none⟩ = some (.slice none 0 0) := (cell_of_row _ _ _ _ _ _ q4).trans rfl
    have z0 : wz.frozen? ⟨w.heap.size, 0, none⟩ = false := frozen_of_row _ _ _ _ _ q4
    have z1 : wz.frozen? ⟨w.heap.size, 1, none⟩ = false := frozen_of_row _ _ _ _ _ q4
    clear q1 q2 q3 q4 q5 hwz e2 y2 y8 y9 z9
    go_wp2_with fail
    have hkk : Keeps (fun k => k = w.heap.size) wz ((wz.setCell ⟨w.heap.size, 0, none⟩ (.int .i64 x.to)).setCell ⟨w.heap.size, 1, none⟩ (.slice va x.t.length vc)) := (kset _ _ _ _).trans (kset _ _ _ _)
    refine bodyPost_ret (results_cell2' rfl _ _ _ w.heap.size 34 #[.int .i64 x.to, .slice va x.t.length vc] (0, 0) _ rfl rfl (set2 HQ4.out) Try.underlying34 (by kernel_rfl)) rfl ⟨va, vc, rfl, hv0_own hkk HQ5.out HQ4.out (by decide), ?_, ?_⟩
    · obtain ⟨fv8, PF8, h8⟩ := HQ1.out
      exact ⟨fv8, PF8, h8.kt (KT.of_keeps (ts := [34]) hkk (fun k _ e => by subst e; exact ⟨Nat.le_refl _, _, _, _, HQ4.out, by simp⟩) (by have := HQ2.out.size; omega)) (by decide) (by decide) (by decide)⟩
    · exact ⟨(HQ2.out.keeps).trans' hkk (fun i hi e => by subst e; exact absurd hi (by omega)), HQ2.out.below.trans ⟨hkk.os, hkk.tape, hkk.output, hkk.size, fun k hk => hkk.block k (by have := HQ2.out.size; omega) (by omega)⟩⟩

end Go.Proofs.Ytecnopopmonlpaa
