/-
  The document's Push, walked.
-/
import Derived.Test.YtcgfechodbmimaaPrPu
namespace Go.Proofs.Ytcgfechodbmimaa
open Go.RowKit Go.ChangeMaps
set_option linter.unusedVariables false
set_option linter.unusedSimpArgs false

theorem fnd_no {l : List It} {z : Int} (h : plc l z = none) : fnd l z = -1 := by unfold fnd; rw [h]
theorem fnd_yes {l : List It} {z : Int} {k : Nat} (h : plc l z = some k) : fnd l z = (k : Int) := by unfold fnd; rw [h]

set_option maxRecDepth 100000 in
set_option maxHeartbeats 4000000 in
theorem rpush_no (w : World) (S : Nat → Prop) (v : Value) (l : List It) (x : It) (k : Nat) (h : RdL w S v l) (hp : plc l x.1 = some k) :
    Calls Try.prog 7 #[v, itv x] w fun e w' => e = .returned (.tuple #[v, .int .i64 7]) ∧ Below w.heap.size w w' := by
  obtain ⟨x0, x1, x2⟩ := x
  unfold itv
  dsimp only at *
  obtain ⟨a, c, rfl, -⟩ := id h
  obtain ⟨y0, hy0⟩ : ∃ y, y = w.alloc (.cells #[.int .u32 x0, .int .u8 x1, .int .u32 x2] 29) := ⟨_, rfl⟩
  have hby : Below w.heap.size w y0 := by rw [hy0]; exact (Below.refl _ _).alloc (Nat.le_refl _) _
  have hbx : y0.heap[w.heap.size]? = some (.cells #[.int .u32 x0, .int .u8 x1, .int .u32 x2] 29 (0, 0)) := by rw [hy0]; exact heap_alloc_new w _
  have e0 : y0.cell? ⟨w.heap.size, 0, none⟩ = some (.int .u32 x0) := (cell_of_row _ _ _ _ _ _ hbx).trans rfl
  have h1 := find11_any y0 S _ l x0 (h.below hby)
  rw [fnd_yes hp] at h1
  have HF := hid h1
  have HB := hid hby
  have hk0 : (0 : Int) ≤ (k : Int) := by omega
  have d1 : decide ((k : Int) ≥ 0) = true := decide_eq_true (by omega)
  clear hbx hby h1 h hp
  obtain ⟨n, hn⟩ : ∃ n, n = l.length := ⟨_, rfl⟩
  rw [← hn] at HF ⊢
  clear hn
  go_enter Try.func7, Try.ntmps7
  go_upto_region 1 with (fail)
  rw [← hy0]
  clear hy0
  go_wp2_with (first
    | (go_at_call 15; (with_reducible refine HF.out.mono ?_); rintro e w2 ⟨rfl, hb2⟩; have HB2 := hid hb2; clear hb2)
    | fail)
  go_ret2
  exact ⟨rfl, HB.out.trans (HB2.out.mono HB.out.size)⟩

set_option maxRecDepth 100000 in
set_option maxHeartbeats 8000000 in
theorem rpush_yes (w : World) (S : Nat → Prop) (v : Value) (l : List It) (x : It) (h : RdL w S v l) (hl : l.length ≤ 9000) (hp : plc l x.1 = none) :
    Calls Try.prog 7 #[v, itv x] w fun e w' => ∃ v', e = .returned (.tuple #[v', .int .i64 0]) ∧ ∃ l', w'.ownsRow w.heap.size 29 3 v' l'.length (cels l') ∧ Put11 x l l' ∧ Below w.heap.size w w' := by
  obtain ⟨a, c, rfl, hlc, hcm, h4⟩ := id h
  obtain ⟨y0, hy0⟩ : ∃ y, y = w.alloc (.cells #[.int .u32 x.1, .int .u8 x.2.1, .int .u32 x.2.2] 29) := ⟨_, rfl⟩
  have hby : Below w.heap.size w y0 := by rw [hy0]; exact (Below.refl _ _).alloc (Nat.le_refl _) _
  have hbx : y0.heap[w.heap.size]? = some (.cells #[.int .u32 x.1, .int .u8 x.2.1, .int .u32 x.2.2] 29 (0, 0)) := by rw [hy0]; exact heap_alloc_new w _
  have hys : y0.heap.size = w.heap.size + 1 := by rw [hy0]; simp
  have h1 := find11_any y0 S _ l x.1 (h.below hby)
  rw [fnd_no hp] at h1
  have HF := hid h1
  have HB := hid hby
  have HXC := hid (fun (wr : World) (hb : Below y0.heap.size y0 wr) => show wr.cell? ⟨w.heap.size, 0, none⟩ = some (.int .u32 x.1) ∧ wr.cell? ⟨w.heap.size, 1, none⟩ = some (.int .u8 x.2.1) ∧ wr.cell? ⟨w.heap.size, 2, none⟩ = some (.int .u32 x.2.2) from
    have hbb := (hb.block w.heap.size (by omega)).trans hbx
    ⟨(cell_of_row _ _ _ _ _ _ hbb).trans rfl, (cell_of_row _ _ _ _ _ _ hbb).trans rfl, (cell_of_row _ _ _ _ _ _ hbb).trans rfl⟩)
  have HC := hid (fun (k : Nat) (hk : k < l.length) (wr : World) (hb : Below y0.heap.size y0 wr) => show ∃ g off, a = some ⟨g, off, none⟩ ∧ wr.cell? ⟨g, off + k * 3, none⟩ = some (.int .u32 (it l k).1) ∧ wr.cell? ⟨g, off + k * 3 + 1, none⟩ = some (.int .u8 (it l k).2.1) ∧ wr.cell? ⟨g, off + k * 3 + 2, none⟩ = some (.int .u32 (it l k).2.2) from by
    obtain ⟨g, off, e, hg, -, c0, c1, c2⟩ := h4 k hk
    have hb2 := hby.trans (hb.mono (by omega))
    exact ⟨g, off, e, (hb2.cell (p := ⟨g, off + k * 3, none⟩) hg).trans c0, (hb2.cell (p := ⟨g, off + k * 3 + 1, none⟩) hg).trans c1, (hb2.cell (p := ⟨g, off + k * 3 + 2, none⟩) hg).trans c2⟩)
  obtain ⟨px, hpx⟩ : ∃ p, p = w.heap.size := ⟨_, rfl⟩
  rw [← hpx] at HXC
  have HYS := hid hys
  have HLL := hid hl
  have d1 : decide ((-1 : Int) ≥ 0) = false := rfl
  obtain ⟨n, hn⟩ : ∃ n, n = l.length := ⟨_, rfl⟩
  rw [← hn] at HF hlc HLL ⊢
  have HN := hid hn
  clear hbx hby h1 h hp h4 hys hl hn
  unfold itv
  go_enter Try.func7, Try.ntmps7
  go_upto_region 1 with (fail)
  rw [← hy0, ← hpx]
  obtain ⟨e0, -, -⟩ := HXC.out y0 (Below.refl _ _)
  have HPX := hid hpx
  clear hy0 hpx
  go_wp2_with (first
    | (go_at_call 15; (with_reducible refine HF.out.mono ?_); rintro e w2 ⟨rfl, hb2⟩; have HB2 := hid hb2; clear hb2)
    | fail)
  clear e0 d1
  go_loopw [6, 7, 18] (fun o d i wr => ∃ (k : Nat) (ao : Option Addr) (co : Nat) (r : List It) (dn : Bool), i = .int .i64 k ∧ k ≤ n ∧ d = .bool dn ∧ o = .slice ao r.length co ∧ wr.ownsRow y0.heap.size 29 3 (.slice ao r.length co) r.length (cels r) ∧ PuRel x l k dn r ∧ Below y0.heap.size y0 wr) (fun _ _ i _ => n - (intOf i).toNat)
  case atStart => exact ⟨0, none, 0, [], false, rfl, Nat.zero_le _, rfl, rfl, World.ownsRow_nil _ _ _ _, by unfold PuRel; rw [if_neg (by simp)]; exact ⟨fun j hj => by omega, rfl⟩, HB2.out⟩
  case round =>
    obtain ⟨k, ao, co, r, dn, rfl, hk, rfl, rfl, hR, hP, hB⟩ := hrel
    have HR := hid hR
    have HP := hid hP
    have HBr := hid hB
    have HRL := hid (show r.length ≤ 9001 by have h1 := hP.len (by rw [← HN.out]; exact hk); have h2 := HLL.out; have h3 := HN.out; omega)
    obtain ⟨x0, x1, x2⟩ := HXC.out wr hB
    by_cases hlt : k < n
    · obtain ⟨g, off, rfl, z0, z1, z2⟩ := HC.out k (by rw [← HN.out]; exact hlt) wr hB
      have HKL := hid (show k < l.length by rw [← HN.out]; exact hlt)
      have HK := hid hlt
      obtain ⟨y1, hy1⟩ : ∃ y, y = wr.alloc (.cells #[.int .u32 (it l k).1, .int .u8 (it l k).2.1, .int .u32 (it l k).2.2] 29) := ⟨_, rfl⟩
      have hby : Below wr.heap.size wr y1 := by rw [hy1]; exact (Below.refl _ _).alloc (Nat.le_refl _) _
      have HBX := hid (fun (W : World) (hb : Below y1.heap.size y1 W) => show W.heap[wr.heap.size]? = some (.cells #[.int .u32 (it l k).1, .int .u8 (it l k).2.1, .int .u32 (it l k).2.2] 29 (0, 0)) from (hb.block _ (by rw [hy1]; simp)).trans (by rw [hy1]; exact heap_alloc_new wr _))
      have HB1 := hid (hB.trans (hby.mono hB.size))
      have HR1 := hid (owns_below hR hby)
      have hki : (k : Int) < (n : Int) := by omega
      have hw1 := w64t k (by have := HLL.out; omega)
      obtain ⟨pt, hpt⟩ : ∃ p, p = wr.heap.size := ⟨_, rfl⟩
      rw [← hpt] at HBX
      have HPLL := hid (show wr.heap.size ≤ pt by omega)
      obtain ⟨y, hy⟩ : ∃ y, y = it l k := ⟨_, rfl⟩
      rw [← hy] at HBX hy1 z0 z1 z2
      have HY := hid hy
      clear hby hR hP hB hlt hy
      go_upto_region 8 with (fail)
      rw [← hy1, ← hpt]
      clear hy1 z0 z1 z2 hpt x0 x1 x2
      have hbb := HBX.out y1 (Below.refl _ _)
      have q0 : y1.cell? ⟨pt, 0, none⟩ = some (.int .u32 y.1) := (cell_of_row _ _ _ _ _ _ hbb).trans rfl
      have q1 : y1.cell? ⟨pt, 1, none⟩ = some (.int .u8 y.2.1) := (cell_of_row _ _ _ _ _ _ hbb).trans rfl
      have q2 : y1.cell? ⟨pt, 2, none⟩ = some (.int .u32 y.2.2) := (cell_of_row _ _ _ _ _ _ hbb).trans rfl
      obtain ⟨x0, x1, x2⟩ := HXC.out y1 HB1.out
      have HPL := HPLL
      have HPT := hid (show pt < y1.heap.size from (Array.getElem?_eq_some_iff.1 hbb).1)
      clear hbb
      cases dn with
      | true =>
        obtain ⟨ad, cp, wa, hrun, hown, hbel, hkp⟩ := app_ritem y1 y0.heap.size ao co r y HR1.out HB1.out.size (by have := HRL.out; omega)
        have HRUN := hid hrun
        have HOW := hid hown
        have HBL := hid hbel
        clear hkp hrun hown hbel
        go_wp2_with (first | (at_builtin; refine ap_rit rfl 26 26 (.tmp 33) (.tmp 35) rfl _ _ _ _ rfl rfl HRUN.out ?_) | fail)
        go_roundw
        case rel => exact ⟨k + 1, ad, cp, r ++ [y], true, by go_num, HK.out, rfl, by rw [List.length_append]; rfl, HOW.out, by rw [HY.out]; exact HP.out.on HKL.out, HB1.out.trans HBL.out⟩
        case measure => have := HK.out; simp [intOf]; omega
      | false =>
        by_cases hbf : Bef x y
        · have h1 := reffirst_any y1 x y
          rw [show decide (Bef x y) = true from decide_eq_true hbf] at h1
          unfold itv at h1
          have HFI := hid h1
          have HBF := hid (show Bef x (it l k) by rw [← HY.out]; exact hbf)
          clear h1 hbf
          go_upto_region 9 with (first
            | (go_at_call 18; (with_reducible refine HFI.out.mono ?_); rintro e w3 ⟨rfl, hb3⟩)
            | fail)
          clear q0 q1 q2 x0 x1 x2
          have HB3 := hid (HB1.out.trans (hb3.mono HB1.out.size))
          obtain ⟨x0, x1, x2⟩ := HXC.out w3 HB3.out
          obtain ⟨ad, cp, wa, hrun, hown, hbel, hkp⟩ := app_ritem w3 y0.heap.size ao co r x (owns_below HR1.out hb3) HB3.out.size (by have := HRL.out; omega)
          have hba := HB3.out.trans hbel
          obtain ⟨ad2, cp2, wa2, hrun2, hown2, hbel2, hkp2⟩ := app_ritem wa y0.heap.size ad cp (r ++ [x]) y (by have h := hown; rw [List.length_append] at h ⊢; exact h) hba.size (by rw [List.length_append]; have := HRL.out; simp; omega)
          rw [List.length_append, List.length_singleton] at hrun2
          have HRUN := hid hrun
          have HRUN2 := hid hrun2
          have HOW := hid hown2
          have HBL := hid (hba.trans hbel2)
          have hpt3 := (hb3.block pt HPT.out).trans (HBX.out y1 (Below.refl _ _))
          have hpta : wa.heap[pt]? = _ := (hkp.block pt (Array.getElem?_eq_some_iff.1 hpt3).1 (fun e => by have h1 := (World.ownsRow.lt HR.out pt e).2; have h2 := HPL.out; omega)).trans hpt3
          have q0 : wa.cell? ⟨pt, 0, none⟩ = some (.int .u32 y.1) := (cell_of_row _ _ _ _ _ _ hpta).trans rfl
          have q1 : wa.cell? ⟨pt, 1, none⟩ = some (.int .u8 y.2.1) := (cell_of_row _ _ _ _ _ _ hpta).trans rfl
          have q2 : wa.cell? ⟨pt, 2, none⟩ = some (.int .u32 y.2.2) := (cell_of_row _ _ _ _ _ _ hpta).trans rfl
          clear hkp hkp2 hrun hown hbel hba hrun2 hown2 hbel2 hpt3 hpta hb3
          go_wp2_with (first
            | (at_builtin; refine ap_rit rfl 26 26 (.tmp 29) (.tmp 31) rfl _ _ _ _ rfl rfl HRUN.out ?_)
            | (at_builtin; refine ap_rit rfl 26 26 (.tmp 33) (.tmp 35) rfl _ _ _ _ rfl rfl HRUN2.out ?_)
            | fail)
          go_roundw
          case rel => exact ⟨k + 1, ad2, cp2, (r ++ [x]) ++ [y], true, by go_num, HK.out, rfl, by rw [List.length_append, List.length_append]; rfl, HOW.out, by rw [HY.out]; exact HP.out.here HKL.out HBF.out, HBL.out⟩
          case measure => have := HK.out; simp [intOf]; omega
        · have h1 := reffirst_any y1 x y
          rw [show decide (Bef x y) = false from decide_eq_false hbf] at h1
          unfold itv at h1
          have HFI := hid h1
          have HBF := hid (show ¬ Bef x (it l k) by rw [← HY.out]; exact hbf)
          clear h1 hbf
          go_upto_region 11 with (first
            | (go_at_call 18; (with_reducible refine HFI.out.mono ?_); rintro e w3 ⟨rfl, hb3⟩)
            | fail)
          have HB3 := hid (HB1.out.trans (hb3.mono HB1.out.size))
          obtain ⟨ad, cp, wa, hrun, hown, hbel, hkp⟩ := app_ritem w3 y0.heap.size ao co r y (owns_below HR1.out hb3) HB3.out.size (by have := HRL.out; omega)
          have HRUN := hid hrun
          have HOW := hid hown
          have HBL := hid (HB3.out.trans hbel)
          have hpt3 := (hb3.block pt HPT.out).trans (HBX.out y1 (Below.refl _ _))
          clear q0 q1 q2 x0 x1 x2
          have q0 : w3.cell? ⟨pt, 0, none⟩ = some (.int .u32 y.1) := (cell_of_row _ _ _ _ _ _ hpt3).trans rfl
          have q1 : w3.cell? ⟨pt, 1, none⟩ = some (.int .u8 y.2.1) := (cell_of_row _ _ _ _ _ _ hpt3).trans rfl
          have q2 : w3.cell? ⟨pt, 2, none⟩ = some (.int .u32 y.2.2) := (cell_of_row _ _ _ _ _ _ hpt3).trans rfl
          clear hkp hrun hown hbel hpt3 hb3
          go_wp2_with (first | (at_builtin; refine ap_rit rfl 26 26 (.tmp 33) (.tmp 35) rfl _ _ _ _ rfl rfl HRUN.out ?_) | fail)
          go_roundw
          case rel => exact ⟨k + 1, ad, cp, r ++ [y], false, by go_num, HK.out, rfl, by rw [List.length_append]; rfl, HOW.out, by rw [HY.out]; exact HP.out.off HKL.out HBF.out, HBL.out⟩
          case measure => have := HK.out; simp [intOf]; omega
    · have hki : ¬ (k : Int) < (n : Int) := by omega
      have hkn : k = l.length := by rw [← HN.out]; omega
      subst hkn
      clear hB hP hR hlt hk
      cases dn with
      | true =>
        have HE := hid HP.out.end1
        go_wp2_with fail
        go_ret2
        exact ⟨_, rfl, r, owns_base HR.out HB.out.size, HE.out, HB.out.trans (HBr.out.mono HB.out.size)⟩
      | false =>
        have HE := hid HP.out.end0
        obtain ⟨ad, cp, wa, hrun, hown, hbel, hkp⟩ := app_ritem wr y0.heap.size ao co r x HR.out HBr.out.size (by have := HRL.out; omega)
        have HRUN := hid hrun
        have HOW := hid hown
        have HBL := hid hbel
        clear hkp hrun hown hbel
        go_wp2_with (first | (at_builtin; refine ap_rit rfl 26 26 (.tmp 40) (.tmp 42) rfl _ _ _ _ rfl rfl HRUN.out ?_) | fail)
        go_ret2
        exact ⟨_, rfl, r ++ [x], by have h := owns_base HOW.out HB.out.size; rw [List.length_append] at h ⊢; exact h, HE.out, HB.out.trans ((HBr.out.trans HBL.out).mono HB.out.size)⟩

end Go.Proofs.Ytcgfechodbmimaa
