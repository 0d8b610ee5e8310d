/-
  Layer 6, the document's: Put, Get, Store on the document's slab.
  Layer 6, the document's: Store, Load.
  Layer 6: the code's slab and the document's beside each other, both there or both nil.
  Layer 6: Get and Load of both slabs.
  A slice of layer 6's Ops that came in.
-/
import Derived.Test.YtbagpckiegpalaaBkB
import Derived.Test.YtbagpckiegpalaaRef6a
import Derived.Test.YtbagpckiegpalaaKit
import Derived.Deep.Slices
import Derived.OpenShut
namespace Go.Proofs.Ytbagpckiegpalaa
open Go.RowKit
set_option linter.unusedVariables false
set_option linter.unusedSimpArgs false

set_option maxRecDepth 100000 in
set_option maxHeartbeats 4000000 in
theorem refput6_any (base : Bs) (rb gd cd : Nat) (wv : Value) (s : Sl) (i : Int) (B : Blk) (a : Option Addr) (n c : Nat) (w : World) (h : RefAt w base rb gd cd wv s) (hst : s.steps ≤ 1000000) (hwy : s.way.length < 1000000) (hr : Rd w (.slice a n c) B.data) (hl : B.data.length = n) (hP : ∀ g, w.heap.size ≤ g → base.P g) :
    Calls Try.prog 13 #[.pointer (some ⟨rb, 0, none⟩), .int .i64 i, B.val (.slice a n c)] w fun e w' => ∃ v', e = .returned (.int .i64 (s.putb i B).2) ∧ RefAt w' base rb gd cd v' (s.putb i B).1 ∧ Keeps (fun k => k = rb) w w' := by
  obtain ⟨kn, hkn⟩ : ∃ k, k = B.kind.toNat := ⟨_, rfl⟩
  obtain ⟨en, hen⟩ : ∃ k, k = B.epoch.toNat := ⟨_, rfl⟩
  obtain ⟨xn, hxn⟩ : ∃ k, k = B.a.toNat := ⟨_, rfl⟩
  obtain ⟨yn, hyn⟩ : ∃ k, k = B.b.toNat := ⟨_, rfl⟩
  have HBV := hid (show B.val (.slice a n c) = .agg #[.int .u8 (kn : Int), .int .u32 (en : Int), .int .u32 (xn : Int), .int .u32 (yn : Int), .slice a n c] by unfold Blk.val; rw [hkn, hen, hxn, hyn])
  rw [HBV.out]
  obtain ⟨w1, hw1⟩ : ∃ z, z = w.alloc (.cells #[.int .u8 (kn : Int), .int .u32 (en : Int), .int .u32 (xn : Int), .int .u32 (yn : Int), .slice a n c] 34) := ⟨_, rfl⟩
  have hb1 : Below w.heap.size w w1 := by rw [hw1]; exact (Below.refl _ _).alloc (Nat.le_refl _) _
  have hg1 : w1.heap[w.heap.size]? = some (.cells #[.int .u8 (kn : Int), .int .u32 (en : Int), .int .u32 (xn : Int), .int .u32 (yn : Int), .slice a n c] 34 (0, 0)) := by rw [hw1]; exact heap_alloc_new _ _
  have HR1 := hid (h.below hb1)
  obtain ⟨d0, -, -, -, -, -⟩ := HR1.out.cells
  obtain ⟨⟨m0, m1, m2, m3, m4⟩, -, -, -, -, -⟩ := zero5 hg1
  have hn63 : n ≤ 9223372036854775807 := by have := hr.len; unfold maxLen at this; omega
  have HB1 := hid hb1
  have HQ1 := hid hw1
  have HRD := hid hr
  have HL := hid hl
  have HP := hid hP
  have HLOW := hid (show rb < w.heap.size from (Array.getElem?_eq_some_iff.1 h.1).1)
  have HK1 := hid (show Keeps (fun k => k = rb) w w1 from Keeps.of_below hb1 (fun k h1 h2 => by omega))
  have HSW := hid (show s.steps ≤ 1000000 ∧ s.way.length < 1000000 from ⟨hst, hwy⟩)
  have HKK := hid (show B.kind = 0 ↔ kn = 0 by rw [hkn]; exact ⟨fun e => by rw [e]; rfl, fun e => UInt8.toNat_inj.1 e⟩)
  have HN1 := hid (show s.n ≤ 4096 from h.okay.2.1)
  clear hr hl hP h hkn hen hxn hyn hw1 hb1 hg1 hst hwy
  by_cases hi : s.has i = false
  · have HE := hid (show s.putb i B = (s, 1) by unfold Sl.putb; rw [if_pos hi])
    have hd : i < 0 ∨ (s.n : Int) ≤ i := by
      unfold Sl.has at hi
      simp at hi
      omega
    clear hi
    rcases hd with hd | hd
    · have h1 : decide (i < 0) = true := decide_eq_true hd
      clear hd
      go_enter Try.func13, Try.ntmps13
      go_upto_region 1 with fail
      rw [← HQ1.out]
      go_wp2_with fail
      go_ret
      rw [HE.out]
      exact ⟨wv, rfl, HR1.out, HK1.out⟩
    · have h1 : decide (i < 0) = false := decide_eq_false (by omega)
      have h2 : decide (i ≥ (s.n : Int)) = true := decide_eq_true hd
      clear hd
      go_enter Try.func13, Try.ntmps13
      go_upto_region 1 with fail
      rw [← HQ1.out]
      go_wp2_with fail
      go_ret
      rw [HE.out]
      exact ⟨wv, rfl, HR1.out, HK1.out⟩
  · have hin : 0 ≤ i ∧ i < (s.n : Int) := by
      unfold Sl.has at hi
      simpa using hi
    have h1 : decide (i < 0) = false := decide_eq_false (by omega)
    have h2 : decide (i ≥ (s.n : Int)) = false := decide_eq_false (by omega)
    have HI := hid hi
    clear hi hin
    by_cases hlong : 104 < n
    · have HE := hid (show s.putb i B = (s, 3) by unfold Sl.putb; rw [if_neg HI.out, if_pos (by rw [HL.out]; exact hlong)])
      have h3 : decide ((n : Int) > 104) = true := decide_eq_true (by omega)
      clear hlong
      go_enter Try.func13, Try.ntmps13
      go_upto_region 1 with fail
      rw [← HQ1.out]
      go_wp2_with fail
      go_ret
      rw [HE.out]
      exact ⟨wv, rfl, HR1.out, HK1.out⟩
    · have h3 : decide ((n : Int) > 104) = false := decide_eq_false (by omega)
      have HN := hid hlong
      clear hlong
      by_cases hk : kn = 0
      · have HE := hid (show s.putb i B = (s, 4) by unfold Sl.putb; rw [if_neg HI.out, if_neg (by rw [HL.out]; exact HN.out), if_pos (HKK.out.2 hk)])
        have h4 : ((kn : Int) == 0) = true := by simp [hk]
        clear hk
        go_enter Try.func13, Try.ntmps13
        go_upto_region 1 with fail
        rw [← HQ1.out]
        go_wp2_with fail
        go_ret
        rw [HE.out]
        exact ⟨wv, rfl, HR1.out, HK1.out⟩
      · have HE := hid (show s.putb i B = s.write i B.bytes by unfold Sl.putb; rw [if_neg HI.out, if_neg (by rw [HL.out]; exact HN.out), if_neg (fun e => hk (HKK.out.1 e))])
        have h4 : ((kn : Int) == 0) = false := by simp [hk]
        clear hk
        have HBY := hid (refbytes_any B a n c w1 (HRD.out.below HB1.out) HL.out (by have := HN.out; omega))
        rw [HBV.out] at HBY
        go_enter Try.func13, Try.ntmps13
        go_upto_region 1 with fail
        rw [← HQ1.out]
        go_wp2_with (first
          | (go_at_call 39; refine (HBY.out).mono ?_; rintro e w2 ⟨ad, cp, rfl, ho2, hb2⟩; have HO2 := hid ho2; have HB2 := hid hb2; have HPU := hid (refput_all base rb gd cd wv s i (.slice ad 128 cp) B.bytes w2 (HR1.out.below hb2) HSW.out.1 HSW.out.2 ho2.rd (fun _ k hk => by have := (HO2.out.lt k hk).1; have := HLOW.out; have := HB1.out.size; omega) (fun g hg => HP.out g (by have := HB1.out.size; have := HB2.out.size; omega))); clear ho2 hb2)
          | (go_at_call 24; refine (HPU.out).mono ?_; rintro e w3 ⟨v3, rfl, h3', k3⟩)
          | fail)
        go_ret
        rw [HE.out]
        exact ⟨v3, rfl, h3', (HK1.out.trans (Keeps.of_below HB2.out (fun k h1 h2 => by omega))).trans k3⟩

def Sl.gotb (s : Sl) (i : Int) : Int × Blk := if (s.got i).2 = 0 then said (s.got i).1 else ((s.got i).2, Blk.zero)

theorem gotb_fits (s : Sl) (h : s.fits) (i : Int) : s.gotb i = s.getb i := by
  unfold Sl.gotb Sl.getb
  rw [read_got s h i]

set_option maxRecDepth 100000 in
set_option maxHeartbeats 4000000 in
theorem refget6_any (base : Bs) (rb gd cd : Nat) (wv : Value) (s : Sl) (i : Int) (w : World) (h : RefAt w base rb gd cd wv s) :
    Calls Try.prog 15 #[.pointer (some ⟨rb, 0, none⟩), .int .i64 i] w fun e w' => ∃ dv, e = .returned (.tuple #[(s.gotb i).2.val dv, .int .i64 (s.gotb i).1]) ∧ Own w' w.heap.size dv (s.gotb i).2.data ∧ Below w.heap.size w w' := by
  obtain ⟨w1, hw1⟩ : ∃ w1, w1 = w.alloc (.cells #[.int .u8 0, .int .u32 0, .int .u32 0, .int .u32 0, .slice none 0 0] 34) := ⟨_, rfl⟩
  have hb1 : Below w.heap.size w w1 := by rw [hw1]; exact (Below.refl _ _).alloc (Nat.le_refl _) _
  have hg1 : w1.heap[w.heap.size]? = some (.cells #[.int .u8 0, .int .u32 0, .int .u32 0, .int .u32 0, .slice none 0 0] 34 (0, 0)) := by rw [hw1]; exact heap_alloc_new w _
  have HRD := hid (refget_all base rb gd cd wv s i w1 (h.below hb1))
  have HB1 := hid hb1
  have HG1 := hid hg1
  have HW1 := hid hw1
  clear h hb1 hg1 hw1
  go_enter Try.func15, Try.ntmps15
  go_upto_region 1 with fail
  rw [← HW1.out]
  go_upto_region 2 with (first
    | (go_at_call 41; refine (HRD.out).mono ?_; rintro e w2 ⟨v, rfl, ha⟩)
    | fail)
  have hlt : w.heap.size < w1.heap.size := (Array.getElem?_eq_some_iff.1 HG1.out).1
  have HB2 := hid (HB1.out.trans (ha.below.mono (Nat.le_of_lt hlt)))
  have HG2 := hid ((ha.below.block _ hlt).trans HG1.out)
  have HZ := hid (show (Try.prog.info? 34).map (·.size) = some 5 by kernel_rfl)
  clear hlt
  by_cases he : (s.got i).2 = 0
  · have HE := hid (show s.gotb i = said (s.got i).1 by unfold Sl.gotb; rw [if_pos he])
    have hl : (s.got i).1.length = 128 ∧ Rd w2 v (s.got i).1 := by
      rcases ha with ⟨h, _⟩ | ⟨_, h, ho, _⟩
      · exact absurd he h
      · exact ⟨h, ho.rd⟩
    have HS := hid (refread_any w2 v (s.got i).1 hl.2 hl.1)
    rw [he]
    clear he hl ha
    go_wp2_with (first
      | (go_at_call 30; refine (HS.out).mono ?_; rintro e w3 ⟨dv, rfl, hrd, hb3⟩
         have hg3 := (hb3.block _ (Array.getElem?_eq_some_iff.1 HG2.out).1).trans HG2.out
         obtain ⟨a', c', hdv⟩ := rd_slice hrd.rd
         subst hdv
         have HB3 := hid (HB2.out.trans (hb3.mono HB2.out.size))
         have HR3 := hid hrd
         have HG3 := hid hg3
         clear hb3 hrd hg3
         obtain ⟨⟨m0, m1, m2, m3, m4⟩, f0, f1, f2, f3, f4⟩ := zero5 HG3.out
         unfold Blk.val)
      | fail)
    refine bodyPost_ret (results_cellS rfl _ _ _ w.heap.size 34 _ (0, 0) _ rfl rfl (set5_heap HG3.out) Try.underlying34 HZ.out) rfl ?_
    rw [HE.out]
    exact ⟨_, rfl, (Own.to HR3.out (fun k hk => set5_other (owns_ne HR3.out HG3.out (by decide) k hk))).base (fun k hk => Nat.le_trans HB2.out.size (HR3.out.lt k hk).1), set5_below HB3.out (Nat.le_refl _)⟩
  · have HE := hid (show s.gotb i = ((s.got i).2, Blk.zero) by unfold Sl.gotb; rw [if_neg he])
    obtain ⟨er, her⟩ : ∃ er, er = (s.got i).2 := ⟨_, rfl⟩
    rw [← her] at he HE ⊢
    have hne : (er != 0) = true := by simpa using he
    obtain ⟨⟨m0, m1, m2, m3, m4⟩, f0, f1, f2, f3, f4⟩ := zero5 HG2.out
    clear her he ha
    go_wp2_with fail
    refine bodyPost_ret (results_cellS rfl _ _ _ w.heap.size 34 _ (0, 0) _ rfl rfl (set5_heap HG2.out) Try.underlying34 HZ.out) rfl ?_
    rw [HE.out]
    exact ⟨.slice none 0 0, rfl, Own.nil _ _, set5_below HB2.out (Nat.le_refl _)⟩

end Go.Proofs.Ytbagpckiegpalaa

namespace Go.Proofs.Ytbagpckiegpalaa
open Go.RowKit
set_option linter.unusedVariables false
set_option linter.unusedSimpArgs false

theorem putb_fits {s : Sl} (h : s.fits) (ho : s.ok) (i : Int) (B : Blk) : (s.putb i B).1.fits := by
  unfold Sl.putb
  split
  · exact h
  · split
    · exact h
    · split
      · exact h
      · exact Sl.write_fits h ho i B.bytes

set_option maxHeartbeats 1000000 in
theorem refstore6_form (r : Rt) (b : Nat) (w : World) (ha : 2 ≤ r.area.toNat) :
    Calls Try.prog 18 #[.pointer (some ⟨b, 0, none⟩), r.val] w fun e w' => e = .returned (.int .i64 4) ∧ Below w.heap.size w w' := by
  obtain ⟨an, han⟩ : ∃ k, k = r.area.toNat := ⟨_, rfl⟩
  unfold Rt.val
  rw [← han] at ha ⊢
  have h2 : decide ((an : Int) > 1) = true := decide_eq_true (by omega)
  go_enter Try.func18, Try.ntmps18
  go_wp2
  go_ret
  exact ⟨rfl, (Below.refl _ _).alloc (Nat.le_refl _) _⟩

set_option maxRecDepth 100000 in
set_option maxHeartbeats 4000000 in
theorem refstore6_any (base : Bs) (rb gd cd : Nat) (wv : Value) (s : Sl) (r : Rt) (w0 : World) (h : RefAt w0 base rb gd cd wv s) (hfit : s.fits) (hst : s.steps ≤ 999990) (hwy : s.way.length < 999990) (har : r.area.toNat < 2) (hP : ∀ g, w0.heap.size ≤ g → base.P g) :
    Calls Try.prog 18 #[.pointer (some ⟨rb, 0, none⟩), r.val] w0 fun e w' => ∃ v', e = .returned (.int .i64 (s.storeb r).2) ∧ RefAt w' base rb gd cd v' (s.storeb r).1 ∧ Keeps (fun k => k = rb ∨ k = gd) w0 w' := by
  obtain ⟨tn, htn⟩ : ∃ k, k = r.turn.toNat := ⟨_, rfl⟩
  obtain ⟨en, hen⟩ : ∃ k, k = r.epoch.toNat := ⟨_, rfl⟩
  obtain ⟨gn, hgn⟩ : ∃ k, k = r.gen.toNat := ⟨_, rfl⟩
  obtain ⟨an, han⟩ : ∃ k, k = r.area.toNat := ⟨_, rfl⟩
  have htl : tn < 4294967296 := by rw [htn]; exact r.turn.isLt
  obtain ⟨tm, htm⟩ : ∃ k, k = tn % 2 := ⟨_, rfl⟩
  have HTM := hid htm
  unfold Rt.val
  rw [← htn, ← hen, ← hgn, ← han]
  have h2 : decide ((an : Int) > 1) = false := decide_eq_false (by omega)
  have t1 : (tn : Int) % 2 = (tm : Int) := by omega
  have t2 : (tn : Int).tmod 2 = (tm : Int) := by rw [Int.tmod_eq_emod_of_nonneg (by omega)]; omega
  obtain ⟨p, hp⟩ : ∃ p, p = s.putb (tm : Int) r.blk := ⟨_, rfl⟩
  obtain ⟨s1, er⟩ := p
  have hst1 := slab_steps (s := s) (tm : Int) r.blk
  have hft1 := putb_fits hfit h.okay (tm : Int) r.blk
  rw [← hp] at hst1 hft1
  have HST1 := hid (show s1.steps ≤ 1000000 ∧ s1.way.length < 1000000 by have := hst1.1; have := hst1.2; dsimp only at *; omega)
  have HFT1 := hid (show s1.fits from hft1)
  have HPB := hid (show s.putb ((r.turn.toNat % 2 : Nat) : Int) r.blk = (s1, er) by rw [← htn, ← htm]; exact hp.symm)
  have HPX := hid hp
  have HSW := hid (show s.steps ≤ 1000000 ∧ s.way.length < 1000000 by omega)
  have HAR := hid har
  have hlow := h.low
  obtain ⟨w1, hw1⟩ : ∃ z, z = w0.alloc (.cells #[.int .u32 (tn : Int), .int .u32 (en : Int), .int .u32 (gn : Int), .int .u8 (an : Int)] 36) := ⟨_, rfl⟩
  have hb1 : Below w0.heap.size w0 w1 := by rw [hw1]; exact (Below.refl _ _).alloc (Nat.le_refl _) _
  have hg1 : w1.heap[w0.heap.size]? = some (.cells #[.int .u32 (tn : Int), .int .u32 (en : Int), .int .u32 (gn : Int), .int .u8 (an : Int)] 36 (0, 0)) := by rw [hw1]; exact heap_alloc_new _ _
  obtain ⟨⟨m0, m1, m2, m3⟩, -, -, -, -⟩ := zero4 hg1
  have H0 := hid h
  have HB1 := hid hb1
  have HQ1 := hid hw1
  have HP := hid hP
  have HAN := hid han
  have HEN := hid hen
  have HTN := hid htn
  have HGN := hid hgn
  clear h hfit hst hwy har htn hen hgn han htm hp hst1 hft1 hw1 hb1 hg1 hlow hP htl
  go_enter Try.func18, Try.ntmps18
  go_upto_region 1 with fail
  rw [← HQ1.out]
  have HPUT := hid (show ∀ W, Below w1.heap.size w1 W → Rd W (.slice (some ⟨w1.heap.size, 0, none⟩) 1 1) [r.area] → Calls Try.prog 13 #[.pointer (some ⟨rb, 0, none⟩), .int .i64 (tm : Int), .agg #[.int .u8 1, .int .u32 (en : Int), .int .u32 (tn : Int), .int .u32 (gn : Int), .slice (some ⟨w1.heap.size, 0, none⟩) 1 1]] W (fun e w' => ∃ v', e = .returned (.int .i64 er) ∧ RefAt w' base rb gd cd v' s1 ∧ Keeps (fun k => k = rb) W w') from fun W hW hr => by
    have hWB := HB1.out.trans (hW.mono HB1.out.size)
    have h := refput6_any base rb gd cd wv s (tm : Int) r.blk _ 1 1 W (H0.out.below hWB) HSW.out.1 HSW.out.2 hr rfl (fun g hg => HP.out g (Nat.le_trans hWB.size hg))
    rw [← HPX.out] at h
    unfold Blk.val at h
    rw [show ((r.blk.kind.toNat : Nat) : Int) = 1 from rfl, show r.blk.epoch.toNat = en from HEN.out.symm, show r.blk.a.toNat = tn from HTN.out.symm, show r.blk.b.toNat = gn from HGN.out.symm] at h
    exact h)
  have HLIT := hid (show Rd (w1.alloc (.cells #[.int .u8 (an : Int)] 5)) (.slice (some ⟨w1.heap.size, 0, none⟩) 1 1) [r.area] from Rd.lit w1 #[.int .u8 (an : Int)] (0, 0) [r.area] 1 rfl (by rw [HAN.out]; rfl) (by unfold maxLen; simp))
  have HBL := hid (show Below w1.heap.size w1 (w1.alloc (.cells #[.int .u8 (an : Int)] 5)) from (Below.refl _ _).alloc (Nat.le_refl _) _)
  go_upto_region 6 with (first
    | (go_at_call 13; refine (HPUT.out _ HBL.out HLIT.out).mono ?_; rintro e w6 ⟨v6, rfl, h6, k6⟩)
    | fail)
  have HS6 := hid h6
  have HLOW := hid H0.out.low
  have HLT := hid (show rb < w0.heap.size from (Array.getElem?_eq_some_iff.1 H0.out.1).1)
  have HB6 := hid (HB1.out.trans (HBL.out.mono HB1.out.size))
  have HK6 := hid (show Keeps (fun k => k = rb ∨ k = gd) w0 w6 from (Keeps.of_below HB6.out (fun k h1 h2 => by omega)).trans' k6 (fun k hk e => .inl e))
  clear h6 k6
  by_cases he : er = 0
  · have heb : (er != 0) = false := by simp [he]
    have HFL := hid (refflush_all base rb gd cd v6 s1 w6 HS6.out HFT1.out HST1.out.1 (fun g hg => HP.out g (Nat.le_trans HK6.out.size hg)))
    have HE := hid (show s.storeb r = s1.flushed by unfold Sl.storeb; rw [if_neg (by have := HAR.out; omega), HPB.out, if_pos he])
    rw [← HE.out] at HFL
    clear he
    go_wp2_with (first
      | (go_at_call 22; refine (HFL.out).mono ?_; rintro e w7 ⟨v7, rfl, h7, hk7⟩)
      | fail)
    go_ret
    exact ⟨v7, rfl, h7, HK6.out.trans hk7⟩
  · have heb : (er != 0) = true := by simpa using he
    have HE := hid (show s.storeb r = (s1, er) by unfold Sl.storeb; rw [if_neg (by have := HAR.out; omega), HPB.out, if_neg he])
    clear he
    go_wp2_with fail
    go_ret
    rw [HE.out]
    exact ⟨v6, rfl, HS6.out, HK6.out⟩

set_option maxRecDepth 100000 in
set_option maxHeartbeats 8000000 in
theorem refload6_any (base : Bs) (rb gd cd : Nat) (wv : Value) (s : Sl) (w : World) (h : RefAt w base rb gd cd wv s) (hfit : s.fits) :
    Calls Try.prog 20 #[.pointer (some ⟨rb, 0, none⟩)] w fun e w' => e = .returned (.tuple #[s.loadb.1.val, .int .i64 s.loadb.2]) ∧ Below w.heap.size w w' := by
  obtain ⟨g0, hg0⟩ : ∃ g, g = w.heap.size := ⟨_, rfl⟩
  obtain ⟨g1, hg1⟩ : ∃ g, g = w.heap.size + 1 := ⟨_, rfl⟩
  obtain ⟨w1, hw1⟩ : ∃ z, z = (w.alloc (.cells #[.int .u32 0, .int .u32 0, .int .u32 0, .int .u8 0] 36)).alloc (.cells #[.int .u32 0, .int .u32 0, .int .u32 0, .int .u8 0] 36) := ⟨_, rfl⟩
  have hba : Below w.heap.size w (w.alloc (.cells #[.int .u32 0, .int .u32 0, .int .u32 0, .int .u8 0] 36)) := (Below.refl _ _).alloc (Nat.le_refl _) _
  have hsa : (w.alloc (.cells #[.int .u32 0, .int .u32 0, .int .u32 0, .int .u8 0] 36)).heap.size = g1 := by rw [hg1]; simp
  have hbb : Below (w.alloc (.cells #[.int .u32 0, .int .u32 0, .int .u32 0, .int .u8 0] 36)).heap.size (w.alloc (.cells #[.int .u32 0, .int .u32 0, .int .u32 0, .int .u8 0] 36)) w1 := by rw [hw1]; exact (Below.refl _ _).alloc (Nat.le_refl _) _
  have HB1 := hid (hba.trans (hbb.mono hba.size))
  have HA1 := hid (show w1.heap[g0]? = some (.cells #[.int .u32 0, .int .u32 0, .int .u32 0, .int .u8 0] 36 (0, 0)) from (hbb.block g0 (by rw [hg0]; simp)).trans (by rw [hg0]; exact heap_alloc_new _ _))
  have HL1 := hid (show w1.heap[g1]? = some (.cells #[.int .u32 0, .int .u32 0, .int .u32 0, .int .u8 0] 36 (0, 0)) by rw [hw1, ← hsa]; exact heap_alloc_new _ _)
  have HGG := hid (show w.heap.size ≤ g0 ∧ w.heap.size ≤ g1 ∧ g0 ≠ g1 by omega)
  have H0 := hid h
  have HFT := hid hfit
  have HQ := hid hw1
  have HQ0 := hid hg0
  have HQ1 := hid hg1
  have HZ4 := hid (show (Try.prog.info? 36).map (·.size) = some 4 by kernel_rfl)
  clear h hfit hba hsa hbb hw1 hg0 hg1
  go_enter Try.func20, Try.ntmps20
  go_upto_region 3 with fail
  rw [← HQ1.out, ← HQ0.out, ← HQ.out]
  go_wp2_with fail
  go_loopw [5, 11] (fun u i wr => ∃ (j : Nat), j ≤ 2 ∧ u = .bool (stOf s j).isSome ∧ i = .int .i64 j ∧ (∀ k, k < j → (s.read (k : Int)).2 = 0) ∧ wr.heap[g0]? = some (.cells #[.int .u32 0, .int .u32 0, .int .u32 0, .int .u8 0] 36 (0, 0)) ∧ wr.heap[g1]? = some (.cells (rcelR ((stOf s j).getD Rt.zero)) 36 (0, 0)) ∧ Below w.heap.size w wr) (fun _ i _ => 2 - (intOf i).toNat)
  case atStart => exact ⟨0, by omega, rfl, rfl, fun k hk => absurd hk (by omega), HA1.out, HL1.out, HB1.out⟩
  case round =>
    obtain ⟨j, hj, rfl, rfl, hok, ha, hl, hb⟩ := hrel
    have HOK := hid hok
    have HA := hid ha
    have HL := hid hl
    have HB := hid hb
    clear hok ha hl hb
    obtain ⟨st, hst⟩ : ∃ st, st = stOf s j := ⟨_, rfl⟩
    rw [← hst] at HL ⊢
    have HST := hid hst
    clear hst
    by_cases hlt : j < 2
    · have hji : (j : Int) < 2 := by omega
      obtain ⟨rr, hrr⟩ : ∃ r, r = s.got (j : Int) := ⟨_, rfl⟩
      have HRA := hid (refget_all base rb gd cd wv s (j : Int) wr (H0.out.below HB.out))
      rw [← hrr] at HRA
      have HRG := hid hrr
      have HRR := hid (show rr = s.read (j : Int) by rw [read_got s HFT.out]; exact hrr)
      clear hrr
      obtain ⟨p, er⟩ := rr
      dsimp only at HRA
      go_upto_region 7 with (first
        | (go_at_call 41; refine (HRA.out).mono ?_; rintro e w2 ⟨v2, rfl, ha2⟩)
        | fail)
      have hb2 := ha2.below
      have HA2 := hid ((hb2.block g0 (Array.getElem?_eq_some_iff.1 HA.out).1).trans HA.out)
      have HL2 := hid ((hb2.block g1 (Array.getElem?_eq_some_iff.1 HL.out).1).trans HL.out)
      have HB2 := hid (HB.out.trans (hb2.mono HB.out.size))
      clear ha2 hb2
      by_cases he : er = 0
      · subst he
        have HGB := hid (show s.gotb (j : Int) = said p by
          unfold Sl.gotb
          rw [← HRG.out]
          exact if_pos rfl)
        have HSD := hid (refget6_any base rb gd cd wv s (j : Int) w2 (H0.out.below HB2.out))
        rw [HGB.out] at HSD
        obtain ⟨B, hB⟩ : ∃ B, B = (said p).2 := ⟨_, rfl⟩
        obtain ⟨ec, hec⟩ : ∃ e, e = (said p).1 := ⟨_, rfl⟩
        rw [← hB, ← hec] at HSD
        obtain ⟨kn, hkn⟩ : ∃ k, k = B.kind.toNat := ⟨_, rfl⟩
        obtain ⟨en, hen⟩ : ∃ k, k = B.epoch.toNat := ⟨_, rfl⟩
        obtain ⟨xn, hxn⟩ : ∃ k, k = B.a.toNat := ⟨_, rfl⟩
        obtain ⟨yn, hyn⟩ : ∃ k, k = B.b.toNat := ⟨_, rfl⟩
        obtain ⟨n, hn⟩ : ∃ n, n = B.data.length := ⟨_, rfl⟩
        obtain ⟨an, han⟩ : ∃ k, k = (B.data.getD 0 0).toNat := ⟨_, rfl⟩
        obtain ⟨m, hm⟩ : ∃ k, k = xn % 2 := ⟨_, rfl⟩
        have HRO := hid (show rootOf (s.read (j : Int)).1 j = if ec = 0 ∧ B.isRoot j = true then some B.rt else none by
          have h := HRR.out
          rw [← h]
          unfold rootOf
          rw [← hB, ← hec])
        have HBV := hid (fun dv => show B.val dv = .agg #[.int .u8 (kn : Int), .int .u32 (en : Int), .int .u32 (xn : Int), .int .u32 (yn : Int), dv] from by unfold Blk.val; rw [hkn, hen, hxn, hyn])
        have HIS := hid (show B.isRoot j = (decide (kn = 1) && (decide (n = 1) && (decide (an < 2) && decide (m = j)))) by
          have hk1 : decide (B.kind = 1) = decide (kn = 1) := by
            rw [hkn]
            congr 1
            exact propext ⟨fun e => by rw [e]; rfl, fun e => UInt8.toNat_inj.1 e⟩
          unfold Blk.isRoot; rw [hk1, ← hn, ← han, ← hxn, ← hm])
        have hx1 : (xn : Int) % 2 = (m : Int) := by omega
        have hx2 : (xn : Int).tmod 2 = (m : Int) := by rw [Int.tmod_eq_emod_of_nonneg (by omega)]; omega
        have hj1 : (j : Int) % 4294967296 = (j : Int) := by omega
        have HNN := hid hn
        have HXN := hid hxn
        have HEN := hid hen
        have HYN := hid hyn
        have HAN := hid han
        clear hB hec hkn hen hxn hyn hn han hm
        go_upto_region 10 with (first
          | (go_at_call 15; refine (HSD.out).mono ?_; rintro e w3 ⟨dv, rfl, ho3, hb3⟩; obtain ⟨ua, uc, rfl⟩ := rd_slice ho3.rd; rw [← HNN.out, HBV.out]; rw [← HNN.out] at ho3)
          | fail)
        obtain ⟨w4, hw4⟩ : ∃ z, z = w3.alloc (.cells #[.int .u8 (kn : Int), .int .u32 (en : Int), .int .u32 (xn : Int), .int .u32 (yn : Int), .slice ua n uc] 34) := ⟨_, rfl⟩
        rw [← hw4]
        obtain ⟨g9, hg9⟩ : ∃ g, g = w3.heap.size := ⟨_, rfl⟩
        rw [← hg9]
        have hb4 : Below w3.heap.size w3 w4 := by rw [hw4]; exact (Below.refl _ _).alloc (Nat.le_refl _) _
        have hb24 := hb3.trans (hb4.mono hb3.size)
        have HA4 := hid ((hb24.block g0 (Array.getElem?_eq_some_iff.1 HA2.out).1).trans HA2.out)
        have HL4 := hid ((hb24.block g1 (Array.getElem?_eq_some_iff.1 HL2.out).1).trans HL2.out)
        have HB4 := hid (HB2.out.trans (hb24.mono HB2.out.size))
        have HG4 := hid (show w4.heap[g9]? = some (.cells #[.int .u8 (kn : Int), .int .u32 (en : Int), .int .u32 (xn : Int), .int .u32 (yn : Int), .slice ua n uc] 34 (0, 0)) by rw [hw4, hg9]; exact heap_alloc_new _ _)
        have HR4 := hid (ho3.rd.below hb4)
        clear hw4 hg9 hb4 hb24 ho3 hb3
        have HOK1 := hid (show ∀ k, k < j + 1 → (s.read (k : Int)).2 = 0 from fun k hk => by
          by_cases e : k < j
          · exact HOK.out k e
          · obtain rfl : k = j := by omega
            rw [← HRR.out])
        have HS1 := hid (show stOf s (j + 1) = pickR st (if ec = 0 ∧ B.isRoot j = true then some B.rt else none) by rw [HST.out, ← HRO.out]; rfl)
        obtain ⟨⟨m0, m1, m2, m3, m4⟩, -, -, -, -, -⟩ := zero5 HG4.out
        by_cases hec : ec = 0
        · subst hec
          by_cases hk : kn = 1
          · have hkb : ((kn : Int) != 1) = false := by simp [hk]
            have HK := hid hk
            clear hk
            by_cases hn : n = 1
            · subst hn
              obtain ⟨gd2, off, cp, e, h1, h2, hgl, hcl⟩ := HR4.out.pos (by rw [← HNN.out]; omega)
              simp only [Value.slice.injEq] at e
              obtain ⟨rfl, -, rfl⟩ := e
              have c0 := hcl 0 (by rw [← HNN.out]; omega)
              rw [bv_eq, ← HAN.out, Nat.add_zero] at c0
              clear h1 h2 hgl hcl
              by_cases ha : an < 2
              · have hab : decide ((an : Int) > 1) = false := decide_eq_false (by omega)
                have HA9 := hid ha
                clear ha
                by_cases hmj : m = j
                · have hmb : ((m : Int) != (j : Int)) = false := by simp [hmj]
                  have HSR := hid (show stOf s (j + 1) = pickR st (some B.rt) by rw [HS1.out, if_pos ⟨rfl, by rw [HIS.out]; simp [HK.out, HA9.out, hmj]⟩])
                  clear hmj
                  cases st with
                  | none =>
                    go_upto_region 12 with fail
                    have HE := hid (show stOf s (j + 1) = some B.rt by rw [HSR.out]; rfl)
                    obtain ⟨⟨q0, q1, q2, q3⟩, f0, f1, f2, f3⟩ := zero4 HL4.out
                    go_still_tail 11, (by kernel_rfl)
                    change wpList _ _ _ _ _ w4.drew
                    go_wp2_with fail
                    have HBR := hid (show B.rt.turn.toNat = xn ∧ B.rt.epoch.toNat = en ∧ B.rt.gen.toNat = yn ∧ B.rt.area.toNat = an from ⟨HXN.out.symm, HEN.out.symm, HYN.out.symm, HAN.out.symm⟩)
                    go_roundw
                    case rel =>
                      refine ⟨j + 1, hlt, by rw [HE.out]; rfl, by go_num, HOK1.out, ?_, ?_, set4_below (below_drw HB4.out) HGG.out.2.1⟩
                      · exact ((set4_keeps w4.drew g1 _ _ _ _).block g0 (Array.getElem?_eq_some_iff.1 HA4.out).1 HGG.out.2.2).trans HA4.out
                      · rw [HE.out]
                        show _ = some (Obj.cells (rcelR B.rt) _ _)
                        rw [show rcelR B.rt = #[.int .u32 (xn : Int), .int .u32 (en : Int), .int .u32 (yn : Int), .int .u8 (an : Int)] by unfold rcelR; rw [HBR.out.1, HBR.out.2.1, HBR.out.2.2.1, HBR.out.2.2.2]]
                        exact set4_heap (w := w4.drew) HL4.out
                    case measure => simp [intOf]; omega
                  | some r =>
                    obtain ⟨tn, htn⟩ : ∃ k, k = r.turn.toNat := ⟨_, rfl⟩
                    have HTN := hid htn
                    have hl4c : w4.cell? ⟨g1, 0, none⟩ = some (.int .u32 (tn : Int)) := (cell_of_row w4 _ _ _ _ _ HL4.out).trans (by rw [htn]; rfl)
                    clear htn
                    by_cases hlr : tn < xn
                    · have hgt : decide ((xn : Int) > (tn : Int)) = true := decide_eq_true (by omega)
                      have HLR := hid hlr
                      have hgt2 : decide (tn < xn) = true := decide_eq_true hlr
                      clear hlr
                      go_upto_region 12 with fail
                      clear hl4c
                      have HE := hid (show stOf s (j + 1) = some B.rt by
                        rw [HSR.out]
                        show (if r.turn.toNat < B.rt.turn.toNat then some B.rt else some r) = _
                        rw [if_pos (by have := HLR.out; rw [HTN.out, HXN.out] at this; exact this)])
                      obtain ⟨⟨q0, q1, q2, q3⟩, f0, f1, f2, f3⟩ := zero4 HL4.out
                      go_still_tail 11, (by kernel_rfl)
                      change wpList _ _ _ _ _ w4.drew
                      go_wp2_with fail
                      have HBR := hid (show B.rt.turn.toNat = xn ∧ B.rt.epoch.toNat = en ∧ B.rt.gen.toNat = yn ∧ B.rt.area.toNat = an from ⟨HXN.out.symm, HEN.out.symm, HYN.out.symm, HAN.out.symm⟩)
                      go_roundw
                      case rel =>
                        refine ⟨j + 1, hlt, by rw [HE.out]; rfl, by go_num, HOK1.out, ?_, ?_, set4_below (below_drw HB4.out) HGG.out.2.1⟩
                        · exact ((set4_keeps w4.drew g1 _ _ _ _).block g0 (Array.getElem?_eq_some_iff.1 HA4.out).1 HGG.out.2.2).trans HA4.out
                        · rw [HE.out]
                          show _ = some (Obj.cells (rcelR B.rt) _ _)
                          rw [show rcelR B.rt = #[.int .u32 (xn : Int), .int .u32 (en : Int), .int .u32 (yn : Int), .int .u8 (an : Int)] by unfold rcelR; rw [HBR.out.1, HBR.out.2.1, HBR.out.2.2.1, HBR.out.2.2.2]]
                          exact set4_heap (w := w4.drew) HL4.out
                      case measure => simp [intOf]; omega
                    · have hgt : decide ((xn : Int) > (tn : Int)) = false := decide_eq_false (by omega)
                      have hgt2 : decide (tn < xn) = false := decide_eq_false hlr
                      have HLR := hid hlr
                      clear hlr
                      go_wp2_with fail
                      have HE := hid (show stOf s (j + 1) = some r by
                        rw [HSR.out]
                        show (if r.turn.toNat < B.rt.turn.toNat then some B.rt else some r) = _
                        rw [if_neg (by have := HLR.out; rw [HTN.out, HXN.out] at this; exact this)])
                      go_roundw
                      case rel => exact ⟨j + 1, hlt, by rw [HE.out]; rfl, by go_num, HOK1.out, HA4.out, by rw [HE.out]; exact HL4.out, HB4.out⟩
                      case measure => simp [intOf]; omega
                · have hmb : ((m : Int) != (j : Int)) = true := by simp; omega
                  have HE := hid (show stOf s (j + 1) = st by rw [HS1.out, if_neg (fun h => by have := h.2; rw [HIS.out] at this; simp [hmj] at this)]; rfl)
                  clear hmj
                  go_wp2_with fail
                  go_roundw
                  case rel => exact ⟨j + 1, hlt, by rw [HE.out], by go_num, HOK1.out, HA4.out, by rw [HE.out]; exact HL4.out, HB4.out⟩
                  case measure => simp [intOf]; omega
              · have hab : decide ((an : Int) > 1) = true := decide_eq_true (by omega)
                have HE := hid (show stOf s (j + 1) = st by rw [HS1.out, if_neg (fun h => by have := h.2; rw [HIS.out] at this; simp [ha] at this)]; rfl)
                clear ha
                go_wp2_with fail
                go_roundw
                case rel => exact ⟨j + 1, hlt, by rw [HE.out], by go_num, HOK1.out, HA4.out, by rw [HE.out]; exact HL4.out, HB4.out⟩
                case measure => simp [intOf]; omega
            · have hnb : ((n : Int) != 1) = true := by simp; omega
              have HE := hid (show stOf s (j + 1) = st by rw [HS1.out, if_neg (fun h => by have := h.2; rw [HIS.out] at this; simp [hn] at this)]; rfl)
              clear hn
              go_wp2_with fail
              go_roundw
              case rel => exact ⟨j + 1, hlt, by rw [HE.out], by go_num, HOK1.out, HA4.out, by rw [HE.out]; exact HL4.out, HB4.out⟩
              case measure => simp [intOf]; omega
          · have hkb : ((kn : Int) != 1) = true := by simp; omega
            have HE := hid (show stOf s (j + 1) = st by rw [HS1.out, if_neg (fun h => by have := h.2; rw [HIS.out] at this; simp [hk] at this)]; rfl)
            clear hk
            go_wp2_with fail
            go_roundw
            case rel => exact ⟨j + 1, hlt, by rw [HE.out], by go_num, HOK1.out, HA4.out, by rw [HE.out]; exact HL4.out, HB4.out⟩
            case measure => simp [intOf]; omega
        · have hecb : (ec != 0) = true := by simpa using hec
          have HE := hid (show stOf s (j + 1) = st by rw [HS1.out, if_neg (fun h => hec h.1)]; rfl)
          clear hec
          go_wp2_with fail
          go_roundw
          case rel => exact ⟨j + 1, hlt, by rw [HE.out], by go_num, HOK1.out, HA4.out, by rw [HE.out]; exact HL4.out, HB4.out⟩
          case measure => simp [intOf]; omega
      · have heb : (er != 0) = true := by simpa using he
        have HER := hid he
        clear he
        obtain ⟨⟨m0, m1, m2, m3⟩, f0, f1, f2, f3⟩ := zero4 HA2.out
        go_wp2_with fail
        refine bodyPost_ret (results_cellS rfl _ _ _ g0 36 _ (0, 0) _ rfl rfl (set4_heap HA2.out) Try.underlying36 HZ4.out) rfl ?_
        have HE := hid (show s.loadb = (Rt.zero, er) by
          unfold Sl.loadb
          obtain rfl | rfl : j = 0 ∨ j = 1 := by omega
          · have h1 := HRR.out
            rw [show (((0 : Nat) : Int)) = 0 from rfl] at h1
            rw [← h1, if_pos HER.out]
          · have h0 := HOK.out 0 (by omega)
            have h1 := HRR.out
            rw [show (((0 : Nat) : Int)) = 0 from rfl] at h0
            rw [show (((1 : Nat) : Int)) = 1 from rfl] at h1
            rw [if_neg (by rw [h0]; simp), ← h1, if_pos HER.out])
        rw [HE.out]
        exact ⟨rfl, set4_below HB2.out HGG.out.1⟩
    · obtain rfl : j = 2 := by omega
      rw [show (((2 : Nat) : Int)) = 2 from rfl]
      have HE := hid (show s.loadb = outR st by
        unfold Sl.loadb
        have h0 := HOK.out 0 (by omega)
        have h1 := HOK.out 1 (by omega)
        rw [show (((0 : Nat) : Int)) = 0 from rfl] at h0
        rw [show (((1 : Nat) : Int)) = 1 from rfl] at h1
        rw [if_neg (by rw [h0]; simp), if_neg (by rw [h1]; simp), ← HST.out])
      obtain ⟨⟨m0, m1, m2, m3⟩, f0, f1, f2, f3⟩ := zero4 HA.out
      cases st with
      | none =>
        go_wp2_with fail
        refine bodyPost_ret (results_cellS rfl _ _ _ g0 36 _ (0, 0) _ rfl rfl (set4_heap HA.out) Try.underlying36 HZ4.out) rfl ?_
        rw [HE.out]
        exact ⟨rfl, set4_below HB.out HGG.out.1⟩
      | some r =>
        obtain ⟨⟨q0, q1, q2, q3⟩, -, -, -, -⟩ := zero4 HL.out
        go_wp2_with fail
        refine bodyPost_ret (results_cellS rfl _ _ _ g0 36 _ (0, 0) _ rfl rfl (set4_heap HA.out) Try.underlying36 HZ4.out) rfl ?_
        rw [HE.out]
        exact ⟨rfl, set4_below HB.out HGG.out.1⟩

end Go.Proofs.Ytbagpckiegpalaa

namespace Go.Proofs.Ytbagpckiegpalaa
open Go.RowKit
set_option linter.unusedVariables false
set_option linter.unusedSimpArgs false

abbrev refTs5 : List TypeId := [89, 32]
abbrev allTs6 : List TypeId := [86, 98, 100, 89, 32]

theorem ref_KT {w w' : World} {base : Nat} {base2 : Bs} {rb gd cd : Nat} {rv : Value} {s : Sl} (hr : RefAt w base2 rb gd cd rv s) (hb : base ≤ base2.n) (hk : Keeps (fun k => k = rb ∨ k = gd) w w') : KT refTs5 base w w' := by
  have hl := hr.low
  obtain ⟨a, ⟨DV, hd⟩, _⟩ := hr
  obtain ⟨cur, hg⟩ := owns_type hd.1 gd rfl
  refine KT.of_keeps hk (fun k _ hS => ?_) (by omega)
  rcases hS with rfl | rfl
  · exact ⟨by omega, _, _, _, a, by simp⟩
  · exact ⟨by omega, _, _, _, hg, by simp⟩

theorem RefAt.kt {ts : List TypeId} {b0 : Nat} {w w' : World} {base : Bs} {rb gd cd : Nat} {rv : Value} {s : Sl} (hr : RefAt w base rb gd cd rv s) (hk : KT ts b0 w w') (h1 : 89 ∉ ts) (h2 : 32 ∉ ts) (h3 : 103 ∉ ts) (h4 : 5 ∉ ts) : RefAt w' base rb gd cd rv s := by
  have ne : ∀ {g : Nat} {cs : Array Value} {t : TypeId}, w.heap[g]? = some (.cells cs t (0, 0)) → t ∉ ts → ¬ ∃ cs t fr, w.heap[g]? = some (.cells cs t fr) ∧ t ∈ ts := fun e ht ⟨cs', t', fr', e', h'⟩ => by
    rw [e] at e'
    simp only [Option.some.injEq, Obj.cells.injEq] at e'
    exact ht (e'.2.1 ▸ h')
  have hr' := hr
  obtain ⟨a, ⟨DV, hd⟩, ⟨PW, hp⟩, _⟩ := hr'
  obtain ⟨cur, hg⟩ := owns_type hd.1 gd rfl
  refine hr.keeps hk.keeps (ne a h1) (ne hg h2) (fun k hv => ?_) (fun g cs _ e => ne e h4)
  obtain ⟨cur2, hc⟩ := owns_type hp.1 k hv
  exact ne hc h3

theorem step_ok {s : Sl} (h : s.ok) : s.step.ok := by
  obtain ⟨o1, o2, o3, o4, o5, o6, o7⟩ := h
  exact ⟨o1, o2, o3, o4, o5, o6, by show s.armed - 1 ≤ _; omega⟩
theorem write_ok {s : Sl} (h : s.ok) (hw : s.way.length < 1000000) (i : Int) (p : List UInt8) : (s.write i p).1.ok := by
  unfold Sl.write
  split
  · exact h
  · rename_i hi
    split
    · exact h
    · split
      · exact h
      · have hb : 0 ≤ i ∧ i < (s.n : Int) := by simpa [Sl.has] using hi
        exact step_ok (Sl.put_ok s i.toNat (pad p) h (by omega) (pad_length p (by omega)) hw)
theorem putb_ok {s : Sl} (h : s.ok) (hw : s.way.length < 1000000) (i : Int) (B : Blk) : (s.putb i B).1.ok := by
  unfold Sl.putb
  split
  · exact h
  · split
    · exact h
    · split
      · exact h
      · exact write_ok h hw i B.bytes
theorem storeb_fits {s : Sl} (hf : s.fits) (h : s.ok) (hw : s.way.length < 1000000) (r : Rt) : (s.storeb r).1.fits := by
  unfold Sl.storeb
  split
  · exact hf
  · split
    · exact Sl.flushed_fits (putb_fits hf h _ _) (putb_ok h hw _ _)
    · exact putb_fits hf h _ _
theorem storeb_steps (s : Sl) (r : Rt) : (s.storeb r).1.steps ≤ s.steps + 2 ∧ (s.storeb r).1.way.length ≤ s.way.length + 2 := by
  unfold Sl.storeb
  split
  · exact ⟨Nat.le_add_right _ _, Nat.le_add_right _ _⟩
  · have h1 := slab_steps (s := s) ((r.turn.toNat % 2 : Nat) : Int) r.blk
    split
    · have h2 := (s.putb ((r.turn.toNat % 2 : Nat) : Int) r.blk).1.flushed_steps
      omega
    · omega

/-- Both slabs: there with these states, or both nil. -/
def Slb2 (w : World) (base base1 N : Nat) (pv xv : Value) (o o' : Option Sl) : Prop :=
  base ≤ base1 ∧ base1 ≤ w.heap.size ∧
  ((o = none ∧ o' = none ∧ pv = .pointer none ∧ xv = .pointer none) ∨
   ∃ (s s' : Sl) (b bn bd : Nat) (wv : Value) (rb gd cd : Nat) (rv : Value), o = some s ∧ o' = some s' ∧ pv = .pointer (some ⟨b, 0, none⟩) ∧ xv = .pointer (some ⟨rb, 0, none⟩) ∧ SlabAt w base b bn bd wv s ∧ RefAt w ⟨base1, fun g => base1 ≤ g⟩ rb gd cd rv s' ∧ s.fits ∧ s'.fits ∧ s.steps ≤ N ∧ s.way.length ≤ N ∧ s'.steps ≤ N ∧ s'.way.length ≤ N)

theorem Slb2.below {w w' : World} {base base1 N : Nat} {pv xv : Value} {o o' : Option Sl} (h : Slb2 w base base1 N pv xv o o') (hb : Below w.heap.size w w') : Slb2 w' base base1 N pv xv o o' := by
  obtain ⟨h1, h2, h3⟩ := h
  refine ⟨h1, Nat.le_trans h2 hb.size, ?_⟩
  rcases h3 with h3 | ⟨s, s', b, bn, bd, wv, rb, gd, cd, rv, e1, e2, e3, e4, hs, hr, rest⟩
  · exact .inl h3
  · exact .inr ⟨s, s', b, bn, bd, wv, rb, gd, cd, rv, e1, e2, e3, e4, hs.below hb, hr.below hb, rest⟩
theorem Slb2.mono {w : World} {base base1 N M : Nat} {pv xv : Value} {o o' : Option Sl} (h : Slb2 w base base1 N pv xv o o') (hm : N ≤ M) : Slb2 w base base1 M pv xv o o' := by
  obtain ⟨h1, h2, h3⟩ := h
  refine ⟨h1, h2, ?_⟩
  rcases h3 with h3 | ⟨s, s', b, bn, bd, wv, rb, gd, cd, rv, e1, e2, e3, e4, hs, hr, f1, f2, n1, n2, n3, n4⟩
  · exact .inl h3
  · exact .inr ⟨s, s', b, bn, bd, wv, rb, gd, cd, rv, e1, e2, e3, e4, hs, hr, f1, f2, by omega, by omega, by omega, by omega⟩

/-- A call on the code's slab. -/
theorem p_lift {w : World} {base base1 N : Nat} {pv xv : Value} {o o' : Option Sl} (h : Slb2 w base base1 N pv xv o o') (fn : FuncId) (args : Value → Array Value) (F : Sl → Sl × Int)
    (hnil : Calls Try.prog fn (args (.pointer none)) w fun e w' => e = .returned (.int .i64 6) ∧ Below w.heap.size w w')
    (hsome : ∀ s b bn bd wv, SlabAt w base b bn bd wv s → s.steps ≤ N → s.way.length ≤ N → Calls Try.prog fn (args (.pointer (some ⟨b, 0, none⟩))) w fun e w' => ∃ v', e = .returned (.int .i64 (F s).2) ∧ SlabAt w' base b bn bd v' (F s).1 ∧ KT slabTs base w w')
    (hf : ∀ s, s.fits → s.ok → s.way.length ≤ N → (F s).1.fits) (hn : ∀ s, (F s).1.steps ≤ s.steps + 2 ∧ (F s).1.way.length ≤ s.way.length + 2) :
    Calls Try.prog fn (args pv) w fun e w' => e = .returned (.int .i64 (o.elim 6 fun s => (F s).2)) ∧ Slb2 w' base base1 (N + 2) pv xv (o.map fun s => (F s).1) o' ∧ KT allTs6 base w w' := by
  obtain ⟨h1, h2, h3⟩ := h
  rcases h3 with ⟨rfl, rfl, rfl, rfl⟩ | ⟨s, s', b, bn, bd, wv, rb, gd, cd, rv, rfl, rfl, rfl, rfl, hs, hr, f1, f2, n1, n2, n3, n4⟩
  · refine hnil.mono ?_
    rintro e w' ⟨rfl, hb⟩
    exact ⟨rfl, ⟨h1, Nat.le_trans h2 hb.size, .inl ⟨rfl, rfl, rfl, rfl⟩⟩, KT.of_below hb (by omega)⟩
  · refine (hsome s b bn bd wv hs n1 n2).mono ?_
    rintro e w' ⟨v', rfl, hs', hk⟩
    obtain ⟨t1, t2⟩ := hn s
    exact ⟨rfl, ⟨h1, Nat.le_trans h2 hk.size, .inr ⟨(F s).1, s', b, bn, bd, v', rb, gd, cd, rv, rfl, rfl, rfl, rfl, hs', hr.kt hk (by decide) (by decide) (by decide) (by decide), hf s f1 hs.okay n2, f2, Nat.le_trans t1 (by omega), Nat.le_trans t2 (by omega), by omega, by omega⟩⟩, hk.mono (fun t ht => by simp at ht ⊢; rcases ht with rfl | rfl | rfl <;> simp) (Nat.le_refl _)⟩

/-- A call on the document's. -/
theorem r_lift {w : World} {base base1 N : Nat} {pv xv : Value} {o o' : Option Sl} (h : Slb2 w base base1 N pv xv o o') (fn : FuncId) (args : Value → Array Value) (F : Sl → Sl × Int)
    (hnil : Calls Try.prog fn (args (.pointer none)) w fun e w' => e = .returned (.int .i64 6) ∧ Below w.heap.size w w')
    (hsome : ∀ s rb gd cd rv, RefAt w ⟨base1, fun g => base1 ≤ g⟩ rb gd cd rv s → s.fits → s.steps ≤ N → s.way.length ≤ N → Calls Try.prog fn (args (.pointer (some ⟨rb, 0, none⟩))) w fun e w' => ∃ v', e = .returned (.int .i64 (F s).2) ∧ RefAt w' ⟨base1, fun g => base1 ≤ g⟩ rb gd cd v' (F s).1 ∧ Keeps (fun k => k = rb ∨ k = gd) w w')
    (hf : ∀ s, s.fits → s.ok → s.way.length ≤ N → (F s).1.fits) (hn : ∀ s, (F s).1.steps ≤ s.steps + 2 ∧ (F s).1.way.length ≤ s.way.length + 2) :
    Calls Try.prog fn (args xv) w fun e w' => e = .returned (.int .i64 (o'.elim 6 fun s => (F s).2)) ∧ Slb2 w' base base1 (N + 2) pv xv o (o'.map fun s => (F s).1) ∧ KT allTs6 base w w' := by
  obtain ⟨h1, h2, h3⟩ := h
  rcases h3 with ⟨rfl, rfl, rfl, rfl⟩ | ⟨s, s', b, bn, bd, wv, rb, gd, cd, rv, rfl, rfl, rfl, rfl, hs, hr, f1, f2, n1, n2, n3, n4⟩
  · refine hnil.mono ?_
    rintro e w' ⟨rfl, hb⟩
    exact ⟨rfl, ⟨h1, Nat.le_trans h2 hb.size, .inl ⟨rfl, rfl, rfl, rfl⟩⟩, KT.of_below hb (by omega)⟩
  · refine (hsome s' rb gd cd rv hr f2 n3 n4).mono ?_
    rintro e w' ⟨v', rfl, hr', hk0⟩
    have hk := ref_KT hr h1 hk0
    obtain ⟨t1, t2⟩ := hn s'
    exact ⟨rfl, ⟨h1, Nat.le_trans h2 hk.size, .inr ⟨s, (F s').1, b, bn, bd, wv, rb, gd, cd, v', rfl, rfl, rfl, rfl, slab_kt hs hk (by decide) (by decide) (by decide), hr', f1, hf s' f2 hr.okay n4, by omega, by omega, Nat.le_trans t1 (by omega), Nat.le_trans t2 (by omega)⟩⟩, hk.mono (fun t ht => by simp at ht ⊢; rcases ht with rfl | rfl <;> simp) (Nat.le_refl _)⟩

theorem same_below {P : Program} {fn : FuncId} {args : Array Value} {w : World} {v : Value} (h : Calls P fn args w fun e w' => e = .returned v ∧ w = w') : Calls P fn args w fun e w' => e = .returned v ∧ Below w.heap.size w w' :=
  h.mono fun e w' ⟨h1, h2⟩ => ⟨h1, by rw [← h2]; exact Below.refl _ _⟩

set_option maxHeartbeats 1000000 in
theorem store_nil (r : Rt) (w : World) : Calls Try.prog 17 #[.pointer none, r.val] w fun e w' => e = .returned (.int .i64 6) ∧ Below w.heap.size w w' := by
  unfold Rt.val
  go_enter Try.func17, Try.ntmps17
  go_wp2
  go_ret
  exact ⟨rfl, (Below.refl _ _).alloc (Nat.le_refl _) _⟩
set_option maxHeartbeats 1000000 in
theorem refstore6_nil (r : Rt) (w : World) : Calls Try.prog 18 #[.pointer none, r.val] w fun e w' => e = .returned (.int .i64 6) ∧ Below w.heap.size w w' := by
  unfold Rt.val
  go_enter Try.func18, Try.ntmps18
  go_wp2
  go_ret
  exact ⟨rfl, (Below.refl _ _).alloc (Nat.le_refl _) _⟩
set_option maxHeartbeats 1000000 in
theorem refput6_nil (i : Int) (B : Blk) (a : Option Addr) (n c : Nat) (w : World) : Calls Try.prog 13 #[.pointer none, .int .i64 i, B.val (.slice a n c)] w fun e w' => e = .returned (.int .i64 6) ∧ Below w.heap.size w w' := by
  unfold Blk.val
  go_enter Try.func13, Try.ntmps13
  go_wp2
  go_ret
  exact ⟨rfl, (Below.refl _ _).alloc (Nat.le_refl _) _⟩

section
variable {w : World} {base base1 N : Nat} {pv xv : Value} {o o' : Option Sl}

theorem p_put (h : Slb2 w base base1 N pv xv o o') (hN : N ≤ 900000) (i : Int) (B : Blk) (a : Option Addr) (n c : Nat) (hr : Rd w (.slice a n c) B.data) :
    Calls Try.prog 12 #[pv, .int .i64 i, B.val (.slice a n c)] w fun e w' => e = .returned (.int .i64 (o.elim 6 fun s => (s.putb i B).2)) ∧ Slb2 w' base base1 (N + 2) pv xv (o.map fun s => (s.putb i B).1) o' ∧ KT allTs6 base w w' :=
  p_lift h 12 (fun p => #[p, .int .i64 i, B.val (.slice a n c)]) (fun s => s.putb i B) (put_nil i B a n c w)
    (fun s b bn bd wv hs n1 n2 => (put_all base b bn bd wv s i B (.slice a n c) w hs (by omega) (by omega) hr).mono fun e w' ⟨v', h1, h2, h3⟩ => ⟨v', h1, h2, slab_KT hs h3⟩)
    (fun s f k _ => putb_fits f k i B) (fun s => ⟨by have := (slab_steps (s := s) i B).1; omega, by have := (slab_steps (s := s) i B).2; omega⟩)

theorem r_put (h : Slb2 w base base1 N pv xv o o') (hN : N ≤ 900000) (i : Int) (B : Blk) (a : Option Addr) (n c : Nat) (hr : Rd w (.slice a n c) B.data) (hl : B.data.length = n) :
    Calls Try.prog 13 #[xv, .int .i64 i, B.val (.slice a n c)] w fun e w' => e = .returned (.int .i64 (o'.elim 6 fun s => (s.putb i B).2)) ∧ Slb2 w' base base1 (N + 2) pv xv o (o'.map fun s => (s.putb i B).1) ∧ KT allTs6 base w w' :=
  r_lift h 13 (fun p => #[p, .int .i64 i, B.val (.slice a n c)]) (fun s => s.putb i B) (refput6_nil i B a n c w)
    (fun s rb gd cd rv hs _ n1 n2 => (refput6_any _ rb gd cd rv s i B a n c w hs (by omega) (by omega) hr hl (fun g hg => Nat.le_trans h.2.1 hg)).mono fun e w' ⟨v', h1, h2, h3⟩ => ⟨v', h1, h2, h3.mono (fun k _ e => .inl e)⟩)
    (fun s f k _ => putb_fits f k i B) (fun s => ⟨by have := (slab_steps (s := s) i B).1; omega, by have := (slab_steps (s := s) i B).2; omega⟩)

theorem p_store (h : Slb2 w base base1 N pv xv o o') (hN : N ≤ 900000) (r : Rt) :
    Calls Try.prog 17 #[pv, r.val] w fun e w' => e = .returned (.int .i64 (o.elim 6 fun s => (s.storeb r).2)) ∧ Slb2 w' base base1 (N + 2) pv xv (o.map fun s => (s.storeb r).1) o' ∧ KT allTs6 base w w' :=
  p_lift h 17 (fun p => #[p, r.val]) (fun s => s.storeb r) (store_nil r w)
    (fun s b bn bd wv hs n1 n2 => by
      by_cases ha : r.area.toNat < 2
      · exact store_any base b bn bd wv s r w hs (by omega) (by omega) ha
      · refine (store_form r b w (by omega)).mono fun e w' ⟨h1, hb⟩ => ?_
        have e4 : s.storeb r = (s, 4) := by unfold Sl.storeb; rw [if_pos (by omega)]
        rw [e4]
        exact ⟨wv, h1, hs.below hb, KT.of_below hb hs.size.2.2.2⟩)
    (fun s f k hw => storeb_fits f k (by omega) r) (fun s => storeb_steps s r)

theorem r_store (h : Slb2 w base base1 N pv xv o o') (hN : N ≤ 900000) (r : Rt) :
    Calls Try.prog 18 #[xv, r.val] w fun e w' => e = .returned (.int .i64 (o'.elim 6 fun s => (s.storeb r).2)) ∧ Slb2 w' base base1 (N + 2) pv xv o (o'.map fun s => (s.storeb r).1) ∧ KT allTs6 base w w' :=
  r_lift h 18 (fun p => #[p, r.val]) (fun s => s.storeb r) (refstore6_nil r w)
    (fun s rb gd cd rv hs hf n1 n2 => by
      by_cases ha : r.area.toNat < 2
      · exact refstore6_any _ rb gd cd rv s r w hs hf (by omega) (by omega) ha (fun g hg => Nat.le_trans h.2.1 hg)
      · refine (refstore6_form r rb w (by omega)).mono fun e w' ⟨h1, hb⟩ => ?_
        have e4 : s.storeb r = (s, 4) := by unfold Sl.storeb; rw [if_pos (by omega)]
        have hlt := (Array.getElem?_eq_some_iff.1 hs.1).1
        have hg := hs.apart
        rw [e4]
        exact ⟨rv, h1, hs.below hb, Keeps.of_below hb (fun k h1 h2 => by omega)⟩)
    (fun s f k hw => storeb_fits f k (by omega) r) (fun s => storeb_steps s r)

theorem p_flush (h : Slb2 w base base1 N pv xv o o') (hN : N ≤ 900000) :
    Calls Try.prog 21 #[pv] w fun e w' => e = .returned (.int .i64 (o.elim 6 fun s => s.flushed.2)) ∧ Slb2 w' base base1 (N + 2) pv xv (o.map fun s => s.flushed.1) o' ∧ KT allTs6 base w w' :=
  p_lift h 21 (fun p => #[p]) (fun s => s.flushed) (same_below (flush_nil w))
    (fun s b bn bd wv hs n1 n2 => (flush_all base b bn bd wv s w hs (by omega)).mono fun e w' ⟨v', h1, h2, h3⟩ => ⟨v', h1, h2, slab_KT hs h3⟩)
    (fun s f k _ => Sl.flushed_fits f k) (fun s => ⟨by have := s.flushed_steps; omega, by have := s.flushed_steps; omega⟩)
theorem r_flush (h : Slb2 w base base1 N pv xv o o') (hN : N ≤ 900000) :
    Calls Try.prog 22 #[xv] w fun e w' => e = .returned (.int .i64 (o'.elim 6 fun s => s.flushed.2)) ∧ Slb2 w' base base1 (N + 2) pv xv o (o'.map fun s => s.flushed.1) ∧ KT allTs6 base w w' :=
  r_lift h 22 (fun p => #[p]) (fun s => s.flushed) (same_below (refflush_nil w))
    (fun s rb gd cd rv hs hf n1 n2 => refflush_all _ rb gd cd rv s w hs hf (by omega) (fun g hg => Nat.le_trans h.2.1 hg))
    (fun s f k _ => Sl.flushed_fits f k) (fun s => ⟨by have := s.flushed_steps; omega, by have := s.flushed_steps; omega⟩)

theorem p_write (h : Slb2 w base base1 N pv xv o o') (hN : N ≤ 900000) (i : Int) (a : Option Addr) (n c : Nat) (p : List UInt8) (hr : Rd w (.slice a n c) p) :
    Calls Try.prog 23 #[pv, .int .i64 i, .slice a n c] w fun e w' => e = .returned (.int .i64 (o.elim 6 fun s => (s.write i p).2)) ∧ Slb2 w' base base1 (N + 2) pv xv (o.map fun s => (s.write i p).1) o' ∧ KT allTs6 base w w' :=
  p_lift h 23 (fun q => #[q, .int .i64 i, .slice a n c]) (fun s => s.write i p) (same_below (write_nil i _ w ⟨_, _, _, rfl⟩))
    (fun s b bn bd wv hs n1 n2 => (write_all base b bn bd wv s i _ p w hs (by omega) (by omega) hr).mono fun e w' ⟨v', h1, h2, h3⟩ => ⟨v', h1, h2, slab_KT hs h3⟩)
    (fun s f k _ => Sl.write_fits f k i p) (fun s => ⟨by have := s.write_steps i p; omega, by have := s.write_steps i p; omega⟩)
theorem r_write (h : Slb2 w base base1 N pv xv o o') (hN : N ≤ 900000) (i : Int) (a : Option Addr) (n c : Nat) (p : List UInt8) (hr : Rd w (.slice a n c) p) (hpb : p ≠ [] → ∀ k, (Value.slice a n c).ownBlock = some k → k < base) :
    Calls Try.prog 24 #[xv, .int .i64 i, .slice a n c] w fun e w' => e = .returned (.int .i64 (o'.elim 6 fun s => (s.write i p).2)) ∧ Slb2 w' base base1 (N + 2) pv xv o (o'.map fun s => (s.write i p).1) ∧ KT allTs6 base w w' :=
  r_lift h 24 (fun q => #[q, .int .i64 i, .slice a n c]) (fun s => s.write i p) (same_below (refput_nil i _ w ⟨_, _, _, rfl⟩))
    (fun s rb gd cd rv hs hf n1 n2 => (refput_all _ rb gd cd rv s i _ p w hs (by omega) (by omega) hr (fun hne k hk e => by have := hpb hne k hk; have := hs.low.1; have := h.1; dsimp only at *; omega) (fun g hg => Nat.le_trans h.2.1 hg)).mono fun e w' ⟨v', h1, h2, h3⟩ => ⟨v', h1, h2, h3.mono (fun k _ e => .inl e)⟩)
    (fun s f k _ => Sl.write_fits f k i p) (fun s => ⟨by have := s.write_steps i p; omega, by have := s.write_steps i p; omega⟩)

theorem p_crash (h : Slb2 w base base1 N pv xv o o') (hN : N ≤ 900000) (cut : Int) (a : Option Addr) (n c : Nat) (p : List UInt8) (hr : Rd w (.slice a n c) p) (hty : p ≠ [] → ∀ k, (Value.slice a n c).ownBlock = some k → ∃ cs, w.heap[k]? = some (.cells cs 5 (0, 0))) :
    Calls Try.prog 25 #[pv, .slice a n c, .int .i64 cut] w fun e w' => e = .returned (.int .i64 (o.elim 6 fun s => 0)) ∧ Slb2 w' base base1 (N + 2) pv xv (o.map fun s => s.crash p cut) o' ∧ KT allTs6 base w w' :=
  p_lift h 25 (fun q => #[q, .slice a n c, .int .i64 cut]) (fun s => (s.crash p cut, 0)) (same_below (crash_nil _ cut w ⟨_, _, _, rfl⟩))
    (fun s b bn bd wv hs n1 n2 => (crash_all base b bn bd wv s _ p cut w hs hr (fun hne k hk e => by
      obtain ⟨cs, hc⟩ := hty hne k hk
      subst e
      have := hc.symm.trans hs.2.2.1
      simp only [Option.some.injEq, Obj.cells.injEq] at this
      exact absurd this.2.1 (by decide))).mono fun e w' ⟨h1, h2, h3⟩ => ⟨_, h1, h2, slab_KT hs h3⟩)
    (fun s f k _ => Sl.crash_fits f k p cut) (fun s => ⟨by show s.steps ≤ _; omega, by show 0 ≤ _; omega⟩)
theorem r_crash (h : Slb2 w base base1 N pv xv o o') (hN : N ≤ 900000) (cut : Int) (a : Option Addr) (n c : Nat) (p : List UInt8) (hr : Rd w (.slice a n c) p) (hpb : p ≠ [] → ∀ k, (Value.slice a n c).ownBlock = some k → k < base) :
    Calls Try.prog 26 #[xv, .slice a n c, .int .i64 cut] w fun e w' => e = .returned (.int .i64 (o'.elim 6 fun s => 0)) ∧ Slb2 w' base base1 (N + 2) pv xv o (o'.map fun s => s.crash p cut) ∧ KT allTs6 base w w' :=
  r_lift h 26 (fun q => #[q, .slice a n c, .int .i64 cut]) (fun s => (s.crash p cut, 0)) (same_below (refcrash_nil _ cut w ⟨_, _, _, rfl⟩))
    (fun s rb gd cd rv hs hf n1 n2 => (refcrash_any _ rb gd cd rv s _ p cut w hs hr (fun hne k hk e => by have := hpb hne k hk; have := hs.low.2.1; have := h.1; dsimp only at *; omega) (fun g hg => Nat.le_trans h.2.1 hg)).mono fun e w' ⟨h1, h2, h3⟩ => ⟨_, h1, h2, h3⟩)
    (fun s f k _ => Sl.crash_fits f k p cut) (fun s => ⟨by show s.steps ≤ _; omega, by show 0 ≤ _; omega⟩)

theorem p_arm (h : Slb2 w base base1 N pv xv o o') (i : Int) (hi : i ≤ 9223372036854775807) :
    Calls Try.prog 27 #[pv, .int .i64 i] w fun e w' => e = .returned (.int .i64 (o.elim 6 fun s => (s.arm i).2)) ∧ Slb2 w' base base1 (N + 2) pv xv (o.map fun s => (s.arm i).1) o' ∧ KT allTs6 base w w' :=
  p_lift h 27 (fun q => #[q, .int .i64 i]) (fun s => s.arm i) (same_below (arm_nil i w))
    (fun s b bn bd wv hs n1 n2 => (arm_all base b bn bd wv s i w hs hi).mono fun e w' ⟨h1, h2, h3⟩ => ⟨_, h1, h2, slab_KT hs h3⟩)
    (fun s f k _ => Sl.arm_fits f i) (fun s => by have := s.arm_steps i; rw [this.1, this.2]; omega)
theorem r_arm (h : Slb2 w base base1 N pv xv o o') (i : Int) (hi : i ≤ 9223372036854775807) :
    Calls Try.prog 28 #[xv, .int .i64 i] w fun e w' => e = .returned (.int .i64 (o'.elim 6 fun s => (s.arm i).2)) ∧ Slb2 w' base base1 (N + 2) pv xv o (o'.map fun s => (s.arm i).1) ∧ KT allTs6 base w w' :=
  r_lift h 28 (fun q => #[q, .int .i64 i]) (fun s => s.arm i) (same_below (refarm_nil i w))
    (fun s rb gd cd rv hs hf n1 n2 => (refarm_all _ rb gd cd rv s i w hs hi).mono fun e w' ⟨h1, h2, h3⟩ => ⟨_, h1, h2, h3.mono (fun k _ e => .inl e)⟩)
    (fun s f k _ => Sl.arm_fits f i) (fun s => by have := s.arm_steps i; rw [this.1, this.2]; omega)
end

end Go.Proofs.Ytbagpckiegpalaa

namespace Go.Proofs.Ytbagpckiegpalaa
open Go.RowKit
set_option linter.unusedVariables false
set_option linter.unusedSimpArgs false

set_option maxHeartbeats 2000000 in
theorem get_nil (i : Int) (w : World) :
    Calls Try.prog 14 #[.pointer none, .int .i64 i] w fun e w' => e = .returned (.tuple #[Blk.zero.val (.slice none 0 0), .int .i64 6]) ∧ Below w.heap.size w w' := by
  obtain ⟨w1, hw1⟩ : ∃ w1, w1 = w.alloc (.cells #[.int .u8 0, .int .u32 0, .int .u32 0, .int .u32 0, .slice none 0 0] 40) := ⟨_, rfl⟩
  have HB1 := hid (show Below w.heap.size w w1 by rw [hw1]; exact (Below.refl _ _).alloc (Nat.le_refl _) _)
  have HG1 := hid (show w1.heap[w.heap.size]? = some (.cells #[.int .u8 0, .int .u32 0, .int .u32 0, .int .u32 0, .slice none 0 0] 40 (0, 0)) by rw [hw1]; exact heap_alloc_new w _)
  have HW1 := hid hw1
  have HZ := hid (show (Try.prog.info? 40).map (·.size) = some 5 by kernel_rfl)
  clear hw1
  go_enter Try.func14, Try.ntmps14
  go_upto_region 1 with fail
  rw [← HW1.out]
  obtain ⟨⟨m0, m1, m2, m3, m4⟩, f0, f1, f2, f3, f4⟩ := zero5 HG1.out
  go_wp2_with (first
    | (go_at_call 31; refine (read_nil i w1).mono ?_; rintro e w2 ⟨rfl, rfl⟩)
    | fail)
  refine bodyPost_ret (results_cellS rfl _ _ _ w.heap.size 40 _ (0, 0) _ rfl rfl (set5_heap HG1.out) Try.underlying40 HZ.out) rfl ?_
  exact ⟨rfl, set5_below HB1.out (Nat.le_refl _)⟩

set_option maxHeartbeats 2000000 in
theorem refget6_nil (i : Int) (w : World) :
    Calls Try.prog 15 #[.pointer none, .int .i64 i] w fun e w' => e = .returned (.tuple #[Blk.zero.val (.slice none 0 0), .int .i64 6]) ∧ Below w.heap.size w w' := by
  obtain ⟨w1, hw1⟩ : ∃ w1, w1 = w.alloc (.cells #[.int .u8 0, .int .u32 0, .int .u32 0, .int .u32 0, .slice none 0 0] 34) := ⟨_, rfl⟩
  have HB1 := hid (show Below w.heap.size w w1 by rw [hw1]; exact (Below.refl _ _).alloc (Nat.le_refl _) _)
  have HG1 := hid (show w1.heap[w.heap.size]? = some (.cells #[.int .u8 0, .int .u32 0, .int .u32 0, .int .u32 0, .slice none 0 0] 34 (0, 0)) by rw [hw1]; exact heap_alloc_new w _)
  have HW1 := hid hw1
  have HZ := hid (show (Try.prog.info? 34).map (·.size) = some 5 by kernel_rfl)
  clear hw1
  go_enter Try.func15, Try.ntmps15
  go_upto_region 1 with fail
  rw [← HW1.out]
  obtain ⟨⟨m0, m1, m2, m3, m4⟩, f0, f1, f2, f3, f4⟩ := zero5 HG1.out
  go_wp2_with (first
    | (go_at_call 41; refine (refget_nil i w1).mono ?_; rintro e w2 ⟨rfl, rfl⟩)
    | fail)
  refine bodyPost_ret (results_cellS rfl _ _ _ w.heap.size 34 _ (0, 0) _ rfl rfl (set5_heap HG1.out) Try.underlying34 HZ.out) rfl ?_
  exact ⟨rfl, set5_below HB1.out (Nat.le_refl _)⟩

set_option maxRecDepth 100000 in
set_option maxHeartbeats 4000000 in
theorem load_nil (w : World) :
    Calls Try.prog 19 #[.pointer none] w fun e w' => e = .returned (.tuple #[Rt.zero.val, .int .i64 6]) ∧ Below w.heap.size w w' := by
  obtain ⟨g0, hg0⟩ : ∃ g, g = w.heap.size := ⟨_, rfl⟩
  obtain ⟨w1, hw1⟩ : ∃ z, z = (w.alloc (.cells #[.int .u32 0, .int .u32 0, .int .u32 0, .int .u8 0] 48)).alloc (.cells #[.int .u32 0, .int .u32 0, .int .u32 0, .int .u8 0] 48) := ⟨_, rfl⟩
  have hba : Below w.heap.size w (w.alloc (.cells #[.int .u32 0, .int .u32 0, .int .u32 0, .int .u8 0] 48)) := (Below.refl _ _).alloc (Nat.le_refl _) _
  have hbb : Below (w.alloc (.cells #[.int .u32 0, .int .u32 0, .int .u32 0, .int .u8 0] 48)).heap.size (w.alloc (.cells #[.int .u32 0, .int .u32 0, .int .u32 0, .int .u8 0] 48)) w1 := by rw [hw1]; exact (Below.refl _ _).alloc (Nat.le_refl _) _
  have HB1 := hid (hba.trans (hbb.mono hba.size))
  have HA1 := hid (show w1.heap[g0]? = some (.cells #[.int .u32 0, .int .u32 0, .int .u32 0, .int .u8 0] 48 (0, 0)) from (hbb.block g0 (by rw [hg0]; simp)).trans (by rw [hg0]; exact heap_alloc_new _ _))
  have HZ4 := hid (show (Try.prog.info? 48).map (·.size) = some 4 by kernel_rfl)
  have HQ := hid hw1
  have HQ0 := hid hg0
  clear hba hbb hw1 hg0
  go_enter Try.func19, Try.ntmps19
  go_upto_region 3 with fail
  rw [← HQ0.out, ← HQ.out]
  obtain ⟨⟨m0, m1, m2, m3⟩, f0, f1, f2, f3⟩ := zero4 HA1.out
  go_wp2_with fail
  refine wp_loop_rounds 1 ?_
  rw [rounds_succ]
  go_wp2_with (first
    | (go_at_call 31; refine (read_nil 0 w1).mono ?_; rintro e w2 ⟨rfl, rfl⟩)
    | fail)
  refine bodyPost_ret (results_cellS rfl _ _ _ g0 48 _ (0, 0) _ rfl rfl (set4_heap HA1.out) Try.underlying48 HZ4.out) rfl ?_
  exact ⟨rfl, set4_below HB1.out (by rw [HQ0.out]; exact Nat.le_refl _)⟩

set_option maxRecDepth 100000 in
set_option maxHeartbeats 4000000 in
theorem refload6_nil (w : World) :
    Calls Try.prog 20 #[.pointer none] w fun e w' => e = .returned (.tuple #[Rt.zero.val, .int .i64 6]) ∧ Below w.heap.size w w' := by
  obtain ⟨g0, hg0⟩ : ∃ g, g = w.heap.size := ⟨_, rfl⟩
  obtain ⟨w1, hw1⟩ : ∃ z, z = (w.alloc (.cells #[.int .u32 0, .int .u32 0, .int .u32 0, .int .u8 0] 36)).alloc (.cells #[.int .u32 0, .int .u32 0, .int .u32 0, .int .u8 0] 36) := ⟨_, rfl⟩
  have hba : Below w.heap.size w (w.alloc (.cells #[.int .u32 0, .int .u32 0, .int .u32 0, .int .u8 0] 36)) := (Below.refl _ _).alloc (Nat.le_refl _) _
  have hbb : Below (w.alloc (.cells #[.int .u32 0, .int .u32 0, .int .u32 0, .int .u8 0] 36)).heap.size (w.alloc (.cells #[.int .u32 0, .int .u32 0, .int .u32 0, .int .u8 0] 36)) w1 := by rw [hw1]; exact (Below.refl _ _).alloc (Nat.le_refl _) _
  have HB1 := hid (hba.trans (hbb.mono hba.size))
  have HA1 := hid (show w1.heap[g0]? = some (.cells #[.int .u32 0, .int .u32 0, .int .u32 0, .int .u8 0] 36 (0, 0)) from (hbb.block g0 (by rw [hg0]; simp)).trans (by rw [hg0]; exact heap_alloc_new _ _))
  have HZ4 := hid (show (Try.prog.info? 36).map (·.size) = some 4 by kernel_rfl)
  have HQ := hid hw1
  have HQ0 := hid hg0
  clear hba hbb hw1 hg0
  go_enter Try.func20, Try.ntmps20
  go_upto_region 3 with fail
  rw [← HQ0.out, ← HQ.out]
  obtain ⟨⟨m0, m1, m2, m3⟩, f0, f1, f2, f3⟩ := zero4 HA1.out
  go_wp2_with fail
  refine wp_loop_rounds 1 ?_
  rw [rounds_succ]
  go_wp2_with (first
    | (go_at_call 41; refine (refget_nil 0 w1).mono ?_; rintro e w2 ⟨rfl, rfl⟩)
    | fail)
  refine bodyPost_ret (results_cellS rfl _ _ _ g0 36 _ (0, 0) _ rfl rfl (set4_heap HA1.out) Try.underlying36 HZ4.out) rfl ?_
  exact ⟨rfl, set4_below HB1.out (by rw [HQ0.out]; exact Nat.le_refl _)⟩

def ogetb (o : Option Sl) (i : Int) : Int × Blk := o.elim (6, Blk.zero) fun s => s.getb i
def oloadb (o : Option Sl) : Rt × Int := o.elim (Rt.zero, 6) fun s => s.loadb

section
variable {w : World} {base base1 N : Nat} {pv xv : Value} {o o' : Option Sl}

theorem p_get (h : Slb2 w base base1 N pv xv o o') (i : Int) :
    Calls Try.prog 14 #[pv, .int .i64 i] w fun e w' => ∃ dv, e = .returned (.tuple #[(ogetb o i).2.val dv, .int .i64 (ogetb o i).1]) ∧ Own w' w.heap.size dv (ogetb o i).2.data ∧ Below w.heap.size w w' := by
  obtain ⟨h1, h2, h3⟩ := h
  rcases h3 with ⟨rfl, rfl, rfl, rfl⟩ | ⟨s, s', b, bn, bd, wv, rb, gd, cd, rv, rfl, rfl, rfl, rfl, hs, hr, rest⟩
  · exact (get_nil i w).mono fun e w' ⟨h1, hb⟩ => ⟨_, h1, Own.nil _ _, hb⟩
  · exact get_any base b bn bd wv s i w hs

theorem r_get (h : Slb2 w base base1 N pv xv o o') (i : Int) :
    Calls Try.prog 15 #[xv, .int .i64 i] w fun e w' => ∃ dv, e = .returned (.tuple #[(ogetb o' i).2.val dv, .int .i64 (ogetb o' i).1]) ∧ Own w' w.heap.size dv (ogetb o' i).2.data ∧ Below w.heap.size w w' := by
  obtain ⟨h1, h2, h3⟩ := h
  rcases h3 with ⟨rfl, rfl, rfl, rfl⟩ | ⟨s, s', b, bn, bd, wv, rb, gd, cd, rv, rfl, rfl, rfl, rfl, hs, hr, f1, f2, rest⟩
  · exact (refget6_nil i w).mono fun e w' ⟨h1, hb⟩ => ⟨_, h1, Own.nil _ _, hb⟩
  · have := refget6_any _ rb gd cd rv s' i w hr
    rw [gotb_fits s' f2] at this
    exact this

theorem p_load (h : Slb2 w base base1 N pv xv o o') :
    Calls Try.prog 19 #[pv] w fun e w' => e = .returned (.tuple #[(oloadb o).1.val, .int .i64 (oloadb o).2]) ∧ Below w.heap.size w w' := by
  obtain ⟨h1, h2, h3⟩ := h
  rcases h3 with ⟨rfl, rfl, rfl, rfl⟩ | ⟨s, s', b, bn, bd, wv, rb, gd, cd, rv, rfl, rfl, rfl, rfl, hs, hr, rest⟩
  · exact load_nil w
  · exact load_any base b bn bd wv s w hs

theorem r_load (h : Slb2 w base base1 N pv xv o o') :
    Calls Try.prog 20 #[xv] w fun e w' => e = .returned (.tuple #[(oloadb o').1.val, .int .i64 (oloadb o').2]) ∧ Below w.heap.size w w' := by
  obtain ⟨h1, h2, h3⟩ := h
  rcases h3 with ⟨rfl, rfl, rfl, rfl⟩ | ⟨s, s', b, bn, bd, wv, rb, gd, cd, rv, rfl, rfl, rfl, rfl, hs, hr, f1, f2, rest⟩
  · exact refload6_nil w
  · exact refload6_any _ rb gd cd rv s' w hr f2
end

end Go.Proofs.Ytbagpckiegpalaa

namespace Go.Proofs.Ytbagpckiegpalaa
open Go.RowKit Go.ChangeShapes Go.Deep
set_option linter.unusedVariables false
set_option linter.unusedSimpArgs false

/-- What the walk is told of a slice of Ops that came in: for each its number, its place, its block, its root. -/
def IsOps6 (w : World) (a : Option Addr) (len cap : Nat) : Prop :=
  (a = none ∧ len = 0 ∧ cap = 0) ∨
  ∃ x, a = some x ∧ len ≤ cap ∧ cap ≤ maxLen ∧ ∀ r, r < len → ∃ (d : Nat) (i : Int) (n0 n1 n2 n3 : Nat) (A : Option Addr) (L C : Nat) (zs : List Int) (tn en gn an : Nat),
    (w.cell? (x.add (r * 11)) = some (.int .u8 (d : Int)) ∧ w.cell? (x.add (r * 11 + 1)) = some (.int .i64 i) ∧ w.cell? (x.add (r * 11 + 2)) = some (.int .u8 (n0 : Int)) ∧ w.cell? (x.add (r * 11 + 3)) = some (.int .u32 (n1 : Int)) ∧ w.cell? (x.add (r * 11 + 4)) = some (.int .u32 (n2 : Int)) ∧ w.cell? (x.add (r * 11 + 5)) = some (.int .u32 (n3 : Int)) ∧ w.cell? (x.add (r * 11 + 6)) = some (.slice A L C) ∧ w.cell? (x.add (r * 11 + 7)) = some (.int .u32 (tn : Int)) ∧ w.cell? (x.add (r * 11 + 8)) = some (.int .u32 (en : Int)) ∧ w.cell? (x.add (r * 11 + 9)) = some (.int .u32 (gn : Int)) ∧ w.cell? (x.add (r * 11 + 10)) = some (.int .u8 (an : Int))) ∧ d < 256 ∧ (-9223372036854775808 ≤ i ∧ i ≤ 9223372036854775807) ∧ (n0 < 256 ∧ n1 < 4294967296 ∧ n2 < 4294967296 ∧ n3 < 4294967296) ∧ IsRow .u8 w A L C zs ∧ (tn < 4294967296 ∧ en < 4294967296 ∧ gn < 4294967296 ∧ an < 256)

set_option maxRecDepth 100000 in
set_option maxHeartbeats 4000000 in
theorem isOps6_of {H : Type} {enc : TypeId × Value → H} {w : World} {base : Nat} {held : Bool} {a : Option Addr} {len cap : Nat} {d : DataW H} {p : List MemPlace}
    (h : DataW.Trod enc Try.prog w base (fun _ => true) held 22 (.slice a len cap) d p) : IsOps6 w a len cap := by
  obtain ⟨fuel, hf⟩ := h
  rcases open_slice Try.underlying22 hf with ⟨hcs, _⟩ | ⟨x, l, c, m, n, D, Pl, hcs, _, hl, hm, hmm, _, hi⟩
  · simp [Value.cells] at hcs
    obtain ⟨rfl, rfl, rfl⟩ := hcs
    exact .inl ⟨rfl, rfl, rfl⟩
  · simp [Value.cells] at hcs
    obtain ⟨rfl, rfl, rfl⟩ := hcs
    refine .inr ⟨x, rfl, hl, hm, fun r hr => ?_⟩
    have h3 : Try.prog.cellsOf 38 = 11 := by kernel_rfl
    have h_uint8 : Try.prog.cellsOf 5 = 1 := by kernel_rfl
    have h_uint32 : Try.prog.cellsOf 31 = 1 := by kernel_rfl
    have h_int : Try.prog.cellsOf 3 = 1 := by kernel_rfl
    have h_bytes : Try.prog.cellsOf 32 = 1 := by kernel_rfl
    have h_bk : Try.prog.cellsOf 34 = 5 := by kernel_rfl
    have h_rt : Try.prog.cellsOf 36 = 4 := by kernel_rfl
    simp only [if_true] at hmm
    obtain ⟨cs', hc, ht'⟩ := hi r (by omega)
    rw [h3] at hc
    obtain ⟨_, hcl, hat⟩ := World.cells?_some hc
    obtain ⟨xs, n', _, _, _, hxl, hfld⟩ := DataW.trod_struct Try.underlying38 ht'
    have f0 : DataW.trod enc Try.prog w base (fun _ => true) held n' 5 ((cs'.drop 0).take (Try.prog.cellsOf 5)) = xs[0]? := hfld 0 _ rfl
    have f1 : DataW.trod enc Try.prog w base (fun _ => true) held n' 3 ((cs'.drop 1).take (Try.prog.cellsOf 3)) = xs[1]? := hfld 1 _ rfl
    have f2 : DataW.trod enc Try.prog w base (fun _ => true) held n' 34 ((cs'.drop 2).take (Try.prog.cellsOf 34)) = xs[2]? := hfld 2 _ rfl
    have f3 : DataW.trod enc Try.prog w base (fun _ => true) held n' 36 ((cs'.drop 7).take (Try.prog.cellsOf 36)) = xs[3]? := hfld 3 _ rfl
    rw [h_uint8] at f0
    rw [h_int] at f1
    rw [h_bk] at f2
    rw [h_rt] at f3
    match cs', hcl with
    | [c0, c1, c2, c3, c4, c5, c6, c7, c8, c9, c10], _ =>
      match xs, hxl with
      | [y0, y1, y2, y3], _ =>
        obtain ⟨d0, e0, _, wf0⟩ := DataW.trod_int Try.underlying5 (show _ = some y0 from f0)
        simp at e0
        subst e0
        have b0 := bounds_u8 wf0
        obtain ⟨dn, rfl⟩ := Int.eq_ofNat_of_zero_le (show 0 ≤ d0 by omega)
        obtain ⟨d1, e1, _, wf1⟩ := DataW.trod_int Try.underlying3 (show _ = some y1 from f1)
        simp at e1
        subst e1
        have b1 := bounds_i64 wf1
        obtain ⟨zs2, n2, _, _, _, hzl, hfld2⟩ := DataW.trod_struct Try.underlying34 (show _ = some y2 from f2)
        obtain ⟨zs3, n3, _, _, _, hzl3, hfld3⟩ := DataW.trod_struct Try.underlying36 (show _ = some y3 from f3)
        have g0 : DataW.trod enc Try.prog w base (fun _ => true) held n2 5 ((([c2, c3, c4, c5, c6] : List Value).drop 0).take (Try.prog.cellsOf 5)) = zs2[0]? := hfld2 0 _ rfl
        rw [h_uint8] at g0
        have g1 : DataW.trod enc Try.prog w base (fun _ => true) held n2 31 ((([c2, c3, c4, c5, c6] : List Value).drop 1).take (Try.prog.cellsOf 31)) = zs2[1]? := hfld2 1 _ rfl
        rw [h_uint32] at g1
        have g2 : DataW.trod enc Try.prog w base (fun _ => true) held n2 31 ((([c2, c3, c4, c5, c6] : List Value).drop 2).take (Try.prog.cellsOf 31)) = zs2[2]? := hfld2 2 _ rfl
        rw [h_uint32] at g2
        have g3 : DataW.trod enc Try.prog w base (fun _ => true) held n2 31 ((([c2, c3, c4, c5, c6] : List Value).drop 3).take (Try.prog.cellsOf 31)) = zs2[3]? := hfld2 3 _ rfl
        rw [h_uint32] at g3
        have g4 : DataW.trod enc Try.prog w base (fun _ => true) held n2 32 ((([c2, c3, c4, c5, c6] : List Value).drop 4).take (Try.prog.cellsOf 32)) = zs2[4]? := hfld2 4 _ rfl
        rw [h_bytes] at g4
        have k0 : DataW.trod enc Try.prog w base (fun _ => true) held n3 31 ((([c7, c8, c9, c10] : List Value).drop 0).take (Try.prog.cellsOf 31)) = zs3[0]? := hfld3 0 _ rfl
        rw [h_uint32] at k0
        have k1 : DataW.trod enc Try.prog w base (fun _ => true) held n3 31 ((([c7, c8, c9, c10] : List Value).drop 1).take (Try.prog.cellsOf 31)) = zs3[1]? := hfld3 1 _ rfl
        rw [h_uint32] at k1
        have k2 : DataW.trod enc Try.prog w base (fun _ => true) held n3 31 ((([c7, c8, c9, c10] : List Value).drop 2).take (Try.prog.cellsOf 31)) = zs3[2]? := hfld3 2 _ rfl
        rw [h_uint32] at k2
        have k3 : DataW.trod enc Try.prog w base (fun _ => true) held n3 5 ((([c7, c8, c9, c10] : List Value).drop 3).take (Try.prog.cellsOf 5)) = zs3[3]? := hfld3 3 _ rfl
        rw [h_uint8] at k3
        match zs2, hzl with
        | [u0, u1, u2, u3, u4], _ =>
          match zs3, hzl3 with
          | [v0, v1, v2, v3], _ =>
            obtain ⟨qb0, eqb0, _, wqb0⟩ := DataW.trod_int Try.underlying5 (show _ = some u0 from g0)
            simp at eqb0
            subst eqb0
            have bqb0 := bounds_u8 wqb0
            obtain ⟨mb0, rfl⟩ := Int.eq_ofNat_of_zero_le (show 0 ≤ qb0 by omega)
            obtain ⟨qb1, eqb1, _, wqb1⟩ := DataW.trod_int Try.underlying31 (show _ = some u1 from g1)
            simp at eqb1
            subst eqb1
            have bqb1 := bounds_u32 wqb1
            obtain ⟨mb1, rfl⟩ := Int.eq_ofNat_of_zero_le (show 0 ≤ qb1 by omega)
            obtain ⟨qb2, eqb2, _, wqb2⟩ := DataW.trod_int Try.underlying31 (show _ = some u2 from g2)
            simp at eqb2
            subst eqb2
            have bqb2 := bounds_u32 wqb2
            obtain ⟨mb2, rfl⟩ := Int.eq_ofNat_of_zero_le (show 0 ≤ qb2 by omega)
            obtain ⟨qb3, eqb3, _, wqb3⟩ := DataW.trod_int Try.underlying31 (show _ = some u3 from g3)
            simp at eqb3
            subst eqb3
            have bqb3 := bounds_u32 wqb3
            obtain ⟨mb3, rfl⟩ := Int.eq_ofNat_of_zero_le (show 0 ≤ qb3 by omega)
            obtain ⟨qr0, eqr0, _, wqr0⟩ := DataW.trod_int Try.underlying31 (show _ = some v0 from k0)
            simp at eqr0
            subst eqr0
            have bqr0 := bounds_u32 wqr0
            obtain ⟨mr0, rfl⟩ := Int.eq_ofNat_of_zero_le (show 0 ≤ qr0 by omega)
            obtain ⟨qr1, eqr1, _, wqr1⟩ := DataW.trod_int Try.underlying31 (show _ = some v1 from k1)
            simp at eqr1
            subst eqr1
            have bqr1 := bounds_u32 wqr1
            obtain ⟨mr1, rfl⟩ := Int.eq_ofNat_of_zero_le (show 0 ≤ qr1 by omega)
            obtain ⟨qr2, eqr2, _, wqr2⟩ := DataW.trod_int Try.underlying31 (show _ = some v2 from k2)
            simp at eqr2
            subst eqr2
            have bqr2 := bounds_u32 wqr2
            obtain ⟨mr2, rfl⟩ := Int.eq_ofNat_of_zero_le (show 0 ≤ qr2 by omega)
            obtain ⟨qr3, eqr3, _, wqr3⟩ := DataW.trod_int Try.underlying5 (show _ = some v3 from k3)
            simp at eqr3
            subst eqr3
            have bqr3 := bounds_u8 wqr3
            obtain ⟨mr3, rfl⟩ := Int.eq_ofNat_of_zero_le (show 0 ≤ qr3 by omega)
            have z0 := hat 0 (by omega)
            have z1 := hat 1 (by omega)
            have z2 := hat 2 (by omega)
            have z3 := hat 3 (by omega)
            have z4 := hat 4 (by omega)
            have z5 := hat 5 (by omega)
            have z6 := hat 6 (by omega)
            have z7 := hat 7 (by omega)
            have z8 := hat 8 (by omega)
            have z9 := hat 9 (by omega)
            have z10 := hat 10 (by omega)
            rw [add_add] at z0 z1 z2 z3 z4 z5 z6 z7 z8 z9 z10
            rcases open_ints Try.underlying32 Try.underlying5 h_uint8 (show _ = some u4 from g4) with ⟨e9, _⟩ | ⟨x9, l9, cp9, zz9, e9, _, hl9, hm9, hz9, _, hcell9, hwz9⟩
            · simp at e9
              subst e9
              exact ⟨dn, d1, mb0, mb1, mb2, mb3, none, 0, 0, [], mr0, mr1, mr2, mr3, ⟨by simpa using z0, by simpa using z1, by simpa using z2, by simpa using z3, by simpa using z4, by simpa using z5, by simpa using z6, by simpa using z7, by simpa using z8, by simpa using z9, by simpa using z10⟩, by omega, ⟨by omega, by omega⟩, ⟨by omega, by omega, by omega, by omega⟩, .inl ⟨rfl, rfl, rfl, rfl⟩, ⟨by omega, by omega, by omega, by omega⟩⟩
            · simp at e9
              subst e9
              exact ⟨dn, d1, mb0, mb1, mb2, mb3, some x9, l9, cp9, zz9, mr0, mr1, mr2, mr3, ⟨by simpa using z0, by simpa using z1, by simpa using z2, by simpa using z3, by simpa using z4, by simpa using z5, by simpa using z6, by simpa using z7, by simpa using z8, by simpa using z9, by simpa using z10⟩, by omega, ⟨by omega, by omega⟩, ⟨by omega, by omega, by omega, by omega⟩, .inr ⟨x9, rfl, hl9, hm9, by simpa using hz9, hcell9, hwz9⟩, ⟨by omega, by omega, by omega, by omega⟩⟩

theorem IsOps6.bounds {w : World} {a : Option Addr} {len cap : Nat} (h : IsOps6 w a len cap) : len ≤ cap ∧ cap ≤ 9223372036854775807 := by
  rcases h with ⟨rfl, rfl, rfl⟩ | ⟨x, rfl, h1, h2, _⟩
  · exact ⟨Nat.le_refl _, by omega⟩
  · unfold maxLen at h2
    exact ⟨h1, by omega⟩

/-- The r-th, in any later world. -/
theorem IsOps6.at {w w' : World} {a : Option Addr} {len cap : Nat} (h : IsOps6 w a len cap) (hb : Below w.heap.size w w') {r : Nat} (hr : r < len) : ∃ (b off : Nat) (d : Nat) (i : Int) (n0 n1 n2 n3 : Nat) (A : Option Addr) (L C : Nat) (zs : List Int) (tn en gn an : Nat), a = some ⟨b, off, none⟩ ∧ b < w.heap.size ∧
    (w'.cell? ⟨b, off + r * 11, none⟩ = some (.int .u8 (d : Int)) ∧ w'.cell? ⟨b, off + r * 11 + 1, none⟩ = some (.int .i64 i) ∧ w'.cell? ⟨b, off + r * 11 + 2, none⟩ = some (.int .u8 (n0 : Int)) ∧ w'.cell? ⟨b, off + r * 11 + 3, none⟩ = some (.int .u32 (n1 : Int)) ∧ w'.cell? ⟨b, off + r * 11 + 4, none⟩ = some (.int .u32 (n2 : Int)) ∧ w'.cell? ⟨b, off + r * 11 + 5, none⟩ = some (.int .u32 (n3 : Int)) ∧ w'.cell? ⟨b, off + r * 11 + 6, none⟩ = some (.slice A L C) ∧ w'.cell? ⟨b, off + r * 11 + 7, none⟩ = some (.int .u32 (tn : Int)) ∧ w'.cell? ⟨b, off + r * 11 + 8, none⟩ = some (.int .u32 (en : Int)) ∧ w'.cell? ⟨b, off + r * 11 + 9, none⟩ = some (.int .u32 (gn : Int)) ∧ w'.cell? ⟨b, off + r * 11 + 10, none⟩ = some (.int .u8 (an : Int))) ∧ d < 256 ∧ (-9223372036854775808 ≤ i ∧ i ≤ 9223372036854775807) ∧ (n0 < 256 ∧ n1 < 4294967296 ∧ n2 < 4294967296 ∧ n3 < 4294967296) ∧ IsRow .u8 w A L C zs ∧ (tn < 4294967296 ∧ en < 4294967296 ∧ gn < 4294967296 ∧ an < 256) := by
  rcases h with ⟨_, rfl, _⟩ | ⟨x, rfl, h1, h2, h3⟩
  · omega
  · obtain ⟨d, i, n0, n1, n2, n3, A, L, C, zs, tn, en, gn, an, ⟨k0, k1, k2, k3, k4, k5, k6, k7, k8, k9, k10⟩, rest⟩ := h3 r hr
    obtain ⟨b, off, spot⟩ := x
    have hs : spot = none := by
      obtain ⟨_, _, _, _, _, _, _, _, _, _, _, _, _, _, ⟨z0, _⟩, _⟩ := h3 0 (by omega)
      simpa [Addr.add] using World.cell?_spot z0
    subst hs
    rw [Addr.add_lit] at k0 k1 k2 k3 k4 k5 k6 k7 k8 k9 k10
    have hlt : b < w.heap.size := World.block_lt_of_cell? _ _ k0
    have f : ∀ (j : Nat) (v : Value), w.cell? ⟨b, off + (r * 11 + j), none⟩ = some v → w'.cell? ⟨b, off + r * 11 + j, none⟩ = some v := fun j v hv => by
      rw [Nat.add_assoc]
      exact (hb.cell (p := ⟨b, off + (r * 11 + j), none⟩) hlt).trans hv
    exact ⟨b, off, d, i, n0, n1, n2, n3, A, L, C, zs, tn, en, gn, an, rfl, hlt, ⟨(hb.cell (p := ⟨b, off + r * 11, none⟩) hlt).trans k0, f 1 _ k1, f 2 _ k2, f 3 _ k3, f 4 _ k4, f 5 _ k5, f 6 _ k6, f 7 _ k7, f 8 _ k8, f 9 _ k9, f 10 _ k10⟩, rest⟩

end Go.Proofs.Ytbagpckiegpalaa
