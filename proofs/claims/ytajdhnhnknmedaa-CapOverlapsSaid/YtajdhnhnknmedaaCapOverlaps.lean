/-
  CapOverlaps: for any stretches and one more, cap.Overlap tells how many ticks lie in all of them, as the document reckons it, and with one more never more. No condition.
  (The frame behind the walk is the guide's shell, at these parameters.)
-/
import Derived.Test.YtajdhnhnknmedaaRows
import Derived.WalkKit
import Derived.Test.YtajdhnhnknmedaaRow3
import Derived.Test.YtajdhnhnknmedaaRef2
import Derived.ProofKit
import Derived.Deep.Cut
import Derived.OpenShut
import Derived.ShutString
import Derived.ChangeOld
import Derived.Below
namespace Go.Proofs.Ytajdhnhnknmedaa.capOverlaps
open Go.ChangeShapes Go.WideShapes Go.ChangeAt Go.RowKit
open Go.ChangeMaps (open_string shut_string)
set_option linter.unusedVariables false

theorem own : ownKnob Try.prog.godebug = none := by kernel_rfl
theorem laidOut : laidOutB Try.prog = true := by kernel_rfl

set_option maxRecDepth 100000 in
set_option maxHeartbeats 8000000 in
theorem ov_zero (a0 : Option Addr) (cap0 : Nat) (x1 x2 : Nat) (l : List (Nat × Nat)) (w : World) (hx1 : x1 < 4294967296) (hx2 : x2 < 4294967296) (hcm : cap0 ≤ 9223372036854775807) (hrd : Rd2 w (.slice a0 0 cap0) l) (HFIT : Hid (Cap.fits l)) (HL : Hid (l.length = 0))  :
    Calls Try.prog 3 #[.slice a0 0 cap0, .agg #[.int .u32 (x1 : Int), .int .u32 (x2 : Int)]] w fun e w' => e = .returned (.bool true) ∧ Below w.heap.size w w' := by
  have LEN := hid (show ([] : List (Nat × Nat)).length + l.length ≤ 1000000 by rw [HL.out]; simp <;> omega)
  have LEN2 := hid (show l.length + [(x1, x2)].length ≤ 1000000 by rw [HL.out]; simp <;> omega)
  have FIT2 := hid (Cap.fits_snoc l (x1, x2) HFIT.out hx1 hx2)
  have hq : (((0 : Nat) : Int) == 0) = true := rfl
  go_enter Try.func3, Try.ntmps3
  go_wp2_with fail
  refine (awake3_any _).mono ?_
  rintro e wa ⟨rfl, hba⟩
  have hbx : wa.heap[w.heap.size]? = some (.cells #[.int .u32 (x1 : Int), .int .u32 (x2 : Int)] 24 (0, 0)) := (hba.block _ (by simp)).trans (heap_alloc_new w _)
  have hwa : Below w.heap.size w wa := ((Below.refl _ _).alloc (Nat.le_refl _) _).trans (hba.mono (by simp))
  have hsz : w.heap.size < wa.heap.size := by have := hba.size; simp at this; omega
  have hrda := hrd.below hwa
  clear hba
  go_wp2_with (at_builtin; go_must (refine app2 rfl (.tmp 14) (.tmp 15) rfl (w.heap.size + 1) (.slice (some ⟨wa.heap.size, 0, none⟩) 0 0) _ [] l rfl rfl (Own2.empty (heap_alloc_new wa _) (by omega)) (hrda.below ((Below.refl _ _).alloc (Nat.le_refl _) _)) LEN.out (by simp; omega) ?_); intro v1 wb ho1 hg1)
  have ho1' : Own2 wb (w.heap.size + 1) v1 l := ho1
  obtain ⟨hwb, hbxb, hszb⟩ := step_keep (base := w.heap.size) hwa (Nat.le_refl _) hsz (fun k hk => by have : wa.heap.size = k := Option.some.inj hk; omega) hg1 hbx
  clear hg1
  go_wp2_with fail
  refine (overlap_any v1 l wb ho1'.rd HFIT.out).mono ?_
  rintro e wc ⟨rfl, hbc⟩
  have hwwc : Below w.heap.size w wc := hwb.trans (hbc.mono hwb.size)
  have hbxwc := (hbc.block _ (by omega)).trans hbxb
  have hrdwc := hrd.below hwwc
  have hszwc : w.heap.size < wc.heap.size := by have := hbc.size; omega
  clear hbxb hwb hbx hwa hrda ho1 ho1' hbc hszb hsz
  have hE1c := hid (heap_alloc_new wc (.cells #[] 24))
  have hE2c := hid ((Below.heap_alloc (wc.alloc (.cells #[] 24)) (.cells #[.int .u32 (x1 : Int), .int .u32 (x2 : Int)] 24) wc.heap.size (by simp)).trans hE1c.out)
  have hE3c := hid (show ((wc.alloc (.cells #[.int .u32 (x1 : Int), .int .u32 (x2 : Int)] 24)).alloc (.cells #[] 24)).heap[wc.heap.size + 1]? = some (.cells #[] 24 (0, 0)) from by have := heap_alloc_new (wc.alloc (.cells #[.int .u32 (x1 : Int), .int .u32 (x2 : Int)] 24)) (.cells #[] 24); simpa using this)
  have hX2c := hid (show ((wc.alloc (.cells #[] 24)).alloc (.cells #[.int .u32 (x1 : Int), .int .u32 (x2 : Int)] 24)).heap[wc.heap.size + 1]? = some (.cells #[.int .u32 (x1 : Int), .int .u32 (x2 : Int)] 24 (0, 0)) from by have := heap_alloc_new (wc.alloc (.cells #[] 24)) (.cells #[.int .u32 (x1 : Int), .int .u32 (x2 : Int)] 24); simpa using this)
  have hX3c := hid ((Below.heap_alloc (wc.alloc (.cells #[.int .u32 (x1 : Int), .int .u32 (x2 : Int)] 24)) (.cells #[] 24) wc.heap.size (by simp)).trans (heap_alloc_new wc (.cells #[.int .u32 (x1 : Int), .int .u32 (x2 : Int)] 24)))
  have RBEc := hid (hrdwc.below ((Below.refl wc.heap.size wc).alloc (Nat.le_refl _) (.cells #[] 24)))
  have RBXc := hid (hrdwc.below ((Below.refl wc.heap.size wc).alloc (Nat.le_refl _) (.cells #[.int .u32 (x1 : Int), .int .u32 (x2 : Int)] 24)))
  have RBEXc := hid (hrdwc.below (((Below.refl wc.heap.size wc).alloc (Nat.le_refl _) (.cells #[] 24)).alloc (by simp) (.cells #[.int .u32 (x1 : Int), .int .u32 (x2 : Int)] 24)))
  have RBXEc := hid (hrdwc.below (((Below.refl wc.heap.size wc).alloc (Nat.le_refl _) (.cells #[.int .u32 (x1 : Int), .int .u32 (x2 : Int)] 24)).alloc (by simp) (.cells #[] 24)))
  have LTc := hid hszwc
  have BWc := hid (show w.heap.size + 1 ≤ wc.heap.size from hszwc)
  have HBXc := hid hbxwc
  have HRDc := hid hrdwc
  have hx0c : wc.cell? ⟨w.heap.size, 0, none⟩ = some (.int .u32 (x1 : Int)) := by rw [cell_of_row _ _ _ _ _ _ hbxwc]; rfl
  have hx1c : wc.cell? ⟨w.heap.size, 1, none⟩ = some (.int .u32 (x2 : Int)) := by rw [cell_of_row _ _ _ _ _ _ hbxwc]; rfl
  have ha0c := acell (o := (.cells #[] 24)) hszwc hx0c
  have ha1c := acell (o := (.cells #[] 24)) hszwc hx1c
  have hb0c := acell (o := (.cells #[.int .u32 (x1 : Int), .int .u32 (x2 : Int)] 24)) hszwc hx0c
  have hb1c := acell (o := (.cells #[.int .u32 (x1 : Int), .int .u32 (x2 : Int)] 24)) hszwc hx1c
  have hc0c := acell (o := (.cells #[.int .u32 (x1 : Int), .int .u32 (x2 : Int)] 24)) (asize (o := (.cells #[] 24)) hszwc) ha0c
  have hc1c := acell (o := (.cells #[.int .u32 (x1 : Int), .int .u32 (x2 : Int)] 24)) (asize (o := (.cells #[] 24)) hszwc) ha1c
  have hd0c := acell (o := (.cells #[] 24)) (asize (o := (.cells #[.int .u32 (x1 : Int), .int .u32 (x2 : Int)] 24)) hszwc) hb0c
  have hd1c := acell (o := (.cells #[] 24)) (asize (o := (.cells #[.int .u32 (x1 : Int), .int .u32 (x2 : Int)] 24)) hszwc) hb1c
  clear hbxwc hrdwc
  go_wp2_with fail
  (first | (go_region_held3 (fun w' => w'.cell? ⟨w.heap.size, 0, none⟩ = some (.int .u32 (x1 : Int)) ∧ w'.cell? ⟨w.heap.size, 1, none⟩ = some (.int .u32 (x2 : Int)))
    (first | (with_reducible refine ⟨?_, ?_⟩ <;> assumption) | go_keep | fail)
    (first
      | (refine step_app2 ?_ (.tmp 18) (.tmp 19) rfl (w.heap.size + 1) (.slice (some ⟨wc.heap.size, 0, none⟩) 0 0) (.slice a0 0 cap0) [] l rfl rfl (Own2.empty hE1c.out (by have := LTc.out; omega)) RBEc.out LEN.out (by have := LTc.out; simp <;> omega) ?_; simp [Region.wanted]; intro v2 wd ho2 hg2
         obtain ⟨hb2, hbx2, hs2⟩ := step_keep (base := w.heap.size) (Below.refl _ wc) (Nat.le_of_lt LTc.out) LTc.out (fun k hk => by have : wc.heap.size = k := Option.some.inj hk; have := LTc.out; omega) (undrew hg2) HBXc.out
         have hx0c2 : wd.cell? ⟨w.heap.size, 0, none⟩ = some (.int .u32 (x1 : Int)) := by rw [cell_of_row _ _ _ _ _ _ hbx2]; rfl
         have hx1c2 : wd.cell? ⟨w.heap.size, 1, none⟩ = some (.int .u32 (x2 : Int)) := by rw [cell_of_row _ _ _ _ _ _ hbx2]; rfl
         have HO3 := hid (show Own2 (wd.alloc (.cells #[.int .u32 (x1 : Int), .int .u32 (x2 : Int)] 24)) (w.heap.size + 1) v2 l from ho2.below ((Below.refl _ _).alloc (Nat.le_refl _) _))
         have he0c := acell (o := (.cells #[.int .u32 (x1 : Int), .int .u32 (x2 : Int)] 24)) (show w.heap.size < wd.heap.size by omega) hx0c2
         have he1c := acell (o := (.cells #[.int .u32 (x1 : Int), .int .u32 (x2 : Int)] 24)) (show w.heap.size < wd.heap.size by omega) hx1c2
         have HY := hid (heap_alloc_new wd (.cells #[.int .u32 (x1 : Int), .int .u32 (x2 : Int)] 24))
         have HBX2 := hid hbx2
         clear ho2 hbx2 hg2)
      | (refine step_app2 ?_ (.tmp 18) (.tmp 19) rfl (w.heap.size + 1) (.slice (some ⟨wc.heap.size, 0, none⟩) 0 0) (.slice a0 0 cap0) [] l rfl rfl (Own2.empty hE2c.out (by have := LTc.out; omega)) RBEXc.out LEN.out (by have := LTc.out; simp <;> omega) ?_; simp [Region.wanted]; intro v2 wd ho2 hg2
         obtain ⟨hb2, hbx2, hs2⟩ := step_keep (base := w.heap.size) (wd := wc.alloc (.cells #[] 24)) (o := (.cells #[.int .u32 (x1 : Int), .int .u32 (x2 : Int)] 24)) ((Below.refl w.heap.size wc).alloc (Nat.le_of_lt LTc.out) _) (Nat.le_of_lt LTc.out) (by have := LTc.out; simp <;> omega) (fun k hk => by have : wc.heap.size = k := Option.some.inj hk; have := LTc.out; omega) (undrew hg2) ((Below.heap_alloc _ _ _ LTc.out).trans HBXc.out)
         have hx0c2 : wd.cell? ⟨w.heap.size, 0, none⟩ = some (.int .u32 (x1 : Int)) := by rw [cell_of_row _ _ _ _ _ _ hbx2]; rfl
         have hx1c2 : wd.cell? ⟨w.heap.size, 1, none⟩ = some (.int .u32 (x2 : Int)) := by rw [cell_of_row _ _ _ _ _ _ hbx2]; rfl
         have HX2 := hid (((undrew hg2).block (wc.heap.size + 1) (by simp <;> omega) (fun e => by have : wc.heap.size = wc.heap.size + 1 := Option.some.inj e.symm; omega)).trans hX2c.out)
         have HO2 := hid (show Own2 wd (w.heap.size + 1) v2 l from ho2)
         have HBX2 := hid hbx2
         clear ho2 hbx2 hg2)
      | (refine step_app2 ?_ (.tmp 18) (.tmp 19) rfl (w.heap.size + 1) (.slice (some ⟨wc.heap.size + 1, 0, none⟩) 0 0) (.slice a0 0 cap0) [] l rfl rfl (Own2.empty hE3c.out (by have := LTc.out; omega)) RBXEc.out LEN.out (by have := LTc.out; simp <;> omega) ?_; simp [Region.wanted]; intro v2 wd ho2 hg2
         obtain ⟨hb2, hbx2, hs2⟩ := step_keep (base := w.heap.size) (wd := wc.alloc (.cells #[.int .u32 (x1 : Int), .int .u32 (x2 : Int)] 24)) (o := (.cells #[] 24)) ((Below.refl w.heap.size wc).alloc (Nat.le_of_lt LTc.out) _) (Nat.le_of_lt LTc.out) (by have := LTc.out; simp <;> omega) (fun k hk => by have : wc.heap.size + 1 = k := Option.some.inj hk; have := LTc.out; omega) (undrew hg2) ((Below.heap_alloc _ _ _ LTc.out).trans HBXc.out)
         have hx0c2 : wd.cell? ⟨w.heap.size, 0, none⟩ = some (.int .u32 (x1 : Int)) := by rw [cell_of_row _ _ _ _ _ _ hbx2]; rfl
         have hx1c2 : wd.cell? ⟨w.heap.size, 1, none⟩ = some (.int .u32 (x2 : Int)) := by rw [cell_of_row _ _ _ _ _ _ hbx2]; rfl
         have HX2 := hid (((undrew hg2).block (wc.heap.size) (by simp <;> omega) (fun e => by have : wc.heap.size + 1 = wc.heap.size := Option.some.inj e.symm; omega)).trans hX3c.out)
         have HO2 := hid (show Own2 wd (w.heap.size + 1) v2 l from ho2)
         have HBX2 := hid hbx2
         clear ho2 hbx2 hg2)
      | (refine step_app2 ?_ (.tmp 20) (.tmp 22) rfl (w.heap.size + 1) v2 (.slice (some ⟨wd.heap.size, 0, none⟩) 1 1) l [(x1, x2)] rfl rfl HO3.out (Rd2.one HY.out) LEN2.out (by have := LTc.out; have := hb2.size; simp <;> omega) ?_; simp [Region.wanted]; intro v3 we ho4 hg4
         obtain ⟨hb4, hbx4, hs4⟩ := step_keep (base := w.heap.size) hb2 (Nat.le_of_lt LTc.out) (Nat.lt_of_lt_of_le LTc.out hb2.size) (fun k hk => (HO3.out.lt k hk).1) hg4 HBX2.out
         have hx0c4 : we.cell? ⟨w.heap.size, 0, none⟩ = some (.int .u32 (x1 : Int)) := by rw [cell_of_row _ _ _ _ _ _ hbx4]; rfl
         have hx1c4 : we.cell? ⟨w.heap.size, 1, none⟩ = some (.int .u32 (x2 : Int)) := by rw [cell_of_row _ _ _ _ _ _ hbx4]; rfl
         have HBX4 := hid hbx4
         clear hg4 hbx4)
      | (refine step_app2 ?_ (.tmp 20) (.tmp 22) rfl (w.heap.size + 1) v2 (.slice (some ⟨wc.heap.size + 1, 0, none⟩) 1 1) l [(x1, x2)] rfl rfl HO2.out (Rd2.one HX2.out) LEN2.out (by have := LTc.out; have := hb2.size; first | omega | (simp <;> omega)) ?_; simp [Region.wanted]; intro v3 we ho4 hg4
         obtain ⟨hb4, hbx4, hs4⟩ := step_keep0 (base := w.heap.size) hb2 (Nat.lt_of_lt_of_le LTc.out hb2.size) (fun k hk => (HO2.out.lt k hk).1) hg4 HBX2.out
         have hx0c4 : we.cell? ⟨w.heap.size, 0, none⟩ = some (.int .u32 (x1 : Int)) := by rw [cell_of_row _ _ _ _ _ _ hbx4]; rfl
         have hx1c4 : we.cell? ⟨w.heap.size, 1, none⟩ = some (.int .u32 (x2 : Int)) := by rw [cell_of_row _ _ _ _ _ _ hbx4]; rfl
         have HBX4 := hid hbx4
         clear hg4 hbx4)
      | (refine step_app2 ?_ (.tmp 20) (.tmp 22) rfl (w.heap.size + 1) v2 (.slice (some ⟨wc.heap.size, 0, none⟩) 1 1) l [(x1, x2)] rfl rfl HO2.out (Rd2.one HX2.out) LEN2.out (by have := LTc.out; have := hb2.size; first | omega | (simp <;> omega)) ?_; simp [Region.wanted]; intro v3 we ho4 hg4
         obtain ⟨hb4, hbx4, hs4⟩ := step_keep0 (base := w.heap.size) hb2 (Nat.lt_of_lt_of_le LTc.out hb2.size) (fun k hk => (HO2.out.lt k hk).1) hg4 HBX2.out
         have hx0c4 : we.cell? ⟨w.heap.size, 0, none⟩ = some (.int .u32 (x1 : Int)) := by rw [cell_of_row _ _ _ _ _ _ hbx4]; rfl
         have hx1c4 : we.cell? ⟨w.heap.size, 1, none⟩ = some (.int .u32 (x2 : Int)) := by rw [cell_of_row _ _ _ _ _ _ hbx4]; rfl
         have HBX4 := hid hbx4
         clear hg4 hbx4)
      | (go_at_call 6; (with_reducible refine (overlap_any v3 (l ++ [(x1, x2)]) _ ho4.rd FIT2.out).mono ?_); rintro e wf ⟨rfl, hb5⟩
         have hb6 : Below w.heap.size wc wf := hb4.trans (hb5.mono (by have := LTc.out; have := hb4.size; omega))
         have hbx5 := (hb5.block w.heap.size (by have := LTc.out; have := hb4.size; omega)).trans HBX4.out
         have hx0c5 : wf.cell? ⟨w.heap.size, 0, none⟩ = some (.int .u32 (x1 : Int)) := by rw [cell_of_row _ _ _ _ _ _ hbx5]; rfl
         have hx1c5 : wf.cell? ⟨w.heap.size, 1, none⟩ = some (.int .u32 (x2 : Int)) := by rw [cell_of_row _ _ _ _ _ _ hbx5]; rfl
         have HBX5 := hid hbx5
         clear hbx5 hb5 ho4)
      | fail)) | fail)
  all_goals
    have HWF := hid (hwwc.trans (hb6.mono (Nat.le_refl _)))
    have hrdf0 := hrd.below HWF.out
    have HRDF := hid (show Rd2 wf.drew (.slice a0 0 cap0) l from hrdf0)
    clear hrdf0
    have HSF := hid (show w.heap.size < wf.heap.size from Nat.lt_of_lt_of_le hszwc hb6.size)
    have hy0 : wf.cell? ⟨w.heap.size, 0, none⟩ = some (.int .u32 (x1 : Int)) := by rw [cell_of_row _ _ _ _ _ _ HBX5.out]; rfl
    have hy1 : wf.cell? ⟨w.heap.size, 1, none⟩ = some (.int .u32 (x2 : Int)) := by rw [cell_of_row _ _ _ _ _ _ HBX5.out]; rfl
    have hyd0 : wf.drew.cell? ⟨w.heap.size, 0, none⟩ = some (.int .u32 (x1 : Int)) := hy0
    have hyd1 : wf.drew.cell? ⟨w.heap.size, 1, none⟩ = some (.int .u32 (x2 : Int)) := hy1
    clear hb6 hb4 hb2
    go_wp2_with fail
    refine wp_region_noPanic ?_
    refine wp_region_held_drew (S := (fun w' => w'.cell? ⟨w.heap.size, 0, none⟩ = some (.int .u32 (x1 : Int)) ∧ w'.cell? ⟨w.heap.size, 1, none⟩ = some (.int .u32 (x2 : Int)))) (by kernel_rfl) ?_ (fun hHeld => ?_)
    · try dsimp only
      (first | (with_reducible refine ⟨?_, ?_⟩ <;> assumption) | go_keep | fail)
    refine wpAnyH_take (i := 0) (oi := { dst := some 25, op := Op.move (Operand.tmp 5), type := 3, pos := "law.go:34", after := #[], guard := none }) (v := ?_) rfl (by kernel_rfl) (by kernel_rfl) (by kernel_rfl) (fun _ _ _ h => h) (Or.inl ⟨by rfl, ?_⟩) (by assumption) ?_
    rotate_left
    · intro w hSw
      try dsimp only at hSw
      go_simp
      try (with_reducible rfl)
    try simp only [Act.put, List.setIfInBounds_toArray, List.set_cons_zero, List.set_cons_succ]
    refine wpAnyH_take (i := 1) (oi := { dst := some 26, op := Op.move (Operand.tmp 0), type := 22, pos := "law.go:34", after := #[], guard := none }) (v := ?_) rfl (by kernel_rfl) (by kernel_rfl) (by kernel_rfl) (fun _ _ _ h => h) (Or.inl ⟨by rfl, ?_⟩) (by assumption) ?_
    rotate_left
    · intro w hSw
      try dsimp only at hSw
      go_simp
      try (with_reducible rfl)
    try simp only [Act.put, List.setIfInBounds_toArray, List.set_cons_zero, List.set_cons_succ]
    refine wpAnyH_ready (rs := [2]) (by kernel_rfl) (by simp) ?_
    refine AllReadyH.cons (o := { dst := some 27, op := Op.call { callee := Callee.value (Operand.func 7), args := #[Operand.tmp 26], argTypes := #[22] }, type := 3, pos := "law.go:34", after := #[{ on := 1, ground := Ground.data }], guard := none }) rfl (fun K hK => ?_) ?_
    · go_simp
      go_at_call 7; (with_reducible refine (refoverlap_any (.slice a0 0 cap0) l _ HRDF.out HFIT.out).mono ?_); rintro e wg ⟨rfl, hbg0⟩
      have hbg : Below wf.heap.size wf wg := ⟨hbg0.os, hbg0.tape, hbg0.output, hbg0.size, hbg0.block⟩
      clear hbg0
      have hwwg : Below w.heap.size w wg := HWF.out.trans (hbg.mono (by have := HSF.out; omega))
      have hbxwg := (hbg.block w.heap.size HSF.out).trans HBX5.out
      have hrdwg := hrd.below hwwg
      have hszwg : w.heap.size < wg.heap.size := by have := hbg.size; have := HSF.out; omega
      have hE1g := hid (heap_alloc_new wg (.cells #[] 24))
      have hE2g := hid ((Below.heap_alloc (wg.alloc (.cells #[] 24)) (.cells #[.int .u32 (x1 : Int), .int .u32 (x2 : Int)] 24) wg.heap.size (by simp)).trans hE1g.out)
      have hE3g := hid (show ((wg.alloc (.cells #[.int .u32 (x1 : Int), .int .u32 (x2 : Int)] 24)).alloc (.cells #[] 24)).heap[wg.heap.size + 1]? = some (.cells #[] 24 (0, 0)) from by have := heap_alloc_new (wg.alloc (.cells #[.int .u32 (x1 : Int), .int .u32 (x2 : Int)] 24)) (.cells #[] 24); simpa using this)
      have hX2g := hid (show ((wg.alloc (.cells #[] 24)).alloc (.cells #[.int .u32 (x1 : Int), .int .u32 (x2 : Int)] 24)).heap[wg.heap.size + 1]? = some (.cells #[.int .u32 (x1 : Int), .int .u32 (x2 : Int)] 24 (0, 0)) from by have := heap_alloc_new (wg.alloc (.cells #[] 24)) (.cells #[.int .u32 (x1 : Int), .int .u32 (x2 : Int)] 24); simpa using this)
      have hX3g := hid ((Below.heap_alloc (wg.alloc (.cells #[.int .u32 (x1 : Int), .int .u32 (x2 : Int)] 24)) (.cells #[] 24) wg.heap.size (by simp)).trans (heap_alloc_new wg (.cells #[.int .u32 (x1 : Int), .int .u32 (x2 : Int)] 24)))
      have RBEg := hid (hrdwg.below ((Below.refl wg.heap.size wg).alloc (Nat.le_refl _) (.cells #[] 24)))
      have RBXg := hid (hrdwg.below ((Below.refl wg.heap.size wg).alloc (Nat.le_refl _) (.cells #[.int .u32 (x1 : Int), .int .u32 (x2 : Int)] 24)))
      have RBEXg := hid (hrdwg.below (((Below.refl wg.heap.size wg).alloc (Nat.le_refl _) (.cells #[] 24)).alloc (by simp) (.cells #[.int .u32 (x1 : Int), .int .u32 (x2 : Int)] 24)))
      have RBXEg := hid (hrdwg.below (((Below.refl wg.heap.size wg).alloc (Nat.le_refl _) (.cells #[.int .u32 (x1 : Int), .int .u32 (x2 : Int)] 24)).alloc (by simp) (.cells #[] 24)))
      have LTg := hid hszwg
      have BWg := hid (show w.heap.size + 1 ≤ wg.heap.size from hszwg)
      have HBXg := hid hbxwg
      have HRDg := hid hrdwg
      have hx0g : wg.cell? ⟨w.heap.size, 0, none⟩ = some (.int .u32 (x1 : Int)) := by rw [cell_of_row _ _ _ _ _ _ hbxwg]; rfl
      have hx1g : wg.cell? ⟨w.heap.size, 1, none⟩ = some (.int .u32 (x2 : Int)) := by rw [cell_of_row _ _ _ _ _ _ hbxwg]; rfl
      have ha0g := acell (o := (.cells #[] 24)) hszwg hx0g
      have ha1g := acell (o := (.cells #[] 24)) hszwg hx1g
      have hb0g := acell (o := (.cells #[.int .u32 (x1 : Int), .int .u32 (x2 : Int)] 24)) hszwg hx0g
      have hb1g := acell (o := (.cells #[.int .u32 (x1 : Int), .int .u32 (x2 : Int)] 24)) hszwg hx1g
      have hc0g := acell (o := (.cells #[.int .u32 (x1 : Int), .int .u32 (x2 : Int)] 24)) (asize (o := (.cells #[] 24)) hszwg) ha0g
      have hc1g := acell (o := (.cells #[.int .u32 (x1 : Int), .int .u32 (x2 : Int)] 24)) (asize (o := (.cells #[] 24)) hszwg) ha1g
      have hd0g := acell (o := (.cells #[] 24)) (asize (o := (.cells #[.int .u32 (x1 : Int), .int .u32 (x2 : Int)] 24)) hszwg) hb0g
      have hd1g := acell (o := (.cells #[] 24)) (asize (o := (.cells #[.int .u32 (x1 : Int), .int .u32 (x2 : Int)] 24)) hszwg) hb1g
      clear hbxwg hrdwg
      go_wp2_with fail
      refine hK.out _ _ ?_ (fun hHeld => ?_)
      · try dsimp only
        (first | (with_reducible refine ⟨?_, ?_⟩ <;> assumption) | go_keep | fail)
      clear hK K
      try simp only [Act.put, List.setIfInBounds_toArray, List.set_cons_zero, List.set_cons_succ]
      refine wpAnyH_take (i := 3) (oi := { dst := some 28, op := Op.binOp BinOp.eql 3 (Operand.tmp 25) (Operand.tmp 27) 3, type := 4, pos := "law.go:34", after := #[{ on := 0, ground := Ground.data }, { on := 2, ground := Ground.data }], guard := none }) (v := ?_) rfl (by kernel_rfl) (by kernel_rfl) (by kernel_rfl) (fun _ _ _ h => h) (Or.inl ⟨by rfl, ?_⟩) (by assumption) ?_
      rotate_left
      · intro w hSw
        try dsimp only at hSw
        go_simp
        try (with_reducible rfl)
      try simp only [Act.put, List.setIfInBounds_toArray, List.set_cons_zero, List.set_cons_succ]
      refine wpAnyH_take (i := 4) (oi := { dst := some 29, op := Op.move (Operand.tmp 28), type := 4, pos := "law.go:34", after := #[{ on := 3, ground := Ground.data }, { on := 2, ground := Ground.chain }], guard := none }) (v := ?_) rfl (by kernel_rfl) (by kernel_rfl) (by kernel_rfl) (fun _ _ _ h => h) (Or.inl ⟨by rfl, ?_⟩) (by assumption) ?_
      rotate_left
      · intro w hSw
        try dsimp only at hSw
        go_simp
        try (with_reducible rfl)
      try simp only [Act.put, List.setIfInBounds_toArray, List.set_cons_zero, List.set_cons_succ]
      refine wpAnyH_take (i := 5) (oi := { dst := some 30, op := Op.move (Operand.tmp 6), type := 3, pos := "law.go:34", after := #[{ on := 4, ground := Ground.guard }], guard := some (4, true) }) (v := ?_) rfl (by kernel_rfl) (by kernel_rfl) (by kernel_rfl) (fun _ _ _ h => h) (Or.inl ⟨by rfl, ?_⟩) (by assumption) ?_
      rotate_left
      · intro w hSw
        try dsimp only at hSw
        go_simp
        try (with_reducible rfl)
      try simp only [Act.put, List.setIfInBounds_toArray, List.set_cons_zero, List.set_cons_succ]
      refine wpAnyH_take (i := 7) (oi := { dst := some 32, op := Op.move (Operand.tmp 0), type := 22, pos := "law.go:34", after := #[{ on := 4, ground := Ground.guard }], guard := some (4, true) }) (v := ?_) rfl (by kernel_rfl) (by kernel_rfl) (by kernel_rfl) (fun _ _ _ h => h) (Or.inl ⟨by rfl, ?_⟩) (by assumption) ?_
      rotate_left
      · intro w hSw
        try dsimp only at hSw
        go_simp
        try (with_reducible rfl)
      try simp only [Act.put, List.setIfInBounds_toArray, List.set_cons_zero, List.set_cons_succ]
      refine wpAnyH_take (i := 9) (oi := { dst := some 34, op := Op.load 24 (Operand.tmp 3), type := 24, pos := "law.go:34", after := #[{ on := 4, ground := Ground.guard }], guard := some (4, true) }) (v := ?_) rfl (by kernel_rfl) (by kernel_rfl) (by kernel_rfl) (fun _ _ _ h => h) (Or.inl ⟨by rfl, ?_⟩) (by assumption) ?_
      rotate_left
      · intro w hSw
        try dsimp only at hSw
        go_simp
        try (with_reducible rfl)
      try simp only [Act.put, List.setIfInBounds_toArray, List.set_cons_zero, List.set_cons_succ]
      refine wpAnyH_ready (rs := [6, 10]) (by kernel_rfl) (by simp) ?_
      refine AllReadyH.cons (o := { dst := some 31, op := Op.buildSlice 22 0 #[], type := 22, pos := "law.go:34", after := #[{ on := 4, ground := Ground.guard }], guard := some (4, true) }) rfl (fun K hK => ?_) ?_
      · go_simp
        refine hK.out _ _ ?_ (fun hHeld => ?_)
        · try dsimp only
          (first | (with_reducible refine ⟨?_, ?_⟩ <;> assumption) | go_keep | fail)
        clear hK K
        try simp only [Act.put, List.setIfInBounds_toArray, List.set_cons_zero, List.set_cons_succ]
        refine wpAnyH_ready (rs := [8, 10]) (by kernel_rfl) (by simp) ?_
        refine AllReadyH.cons (o := { dst := some 33, op := Op.call { callee := Callee.builtin Builtin.append, args := #[Operand.tmp 31, Operand.tmp 32], argTypes := #[22, 22] }, type := 22, pos := "law.go:34", after := #[{ on := 6, ground := Ground.data }, { on := 7, ground := Ground.data }, { on := 4, ground := Ground.chain }, { on := 4, ground := Ground.guard }], guard := some (4, true) }) rfl (fun K hK => ?_) ?_
        · refine step_app2 ?_ (.tmp 31) (.tmp 32) rfl (w.heap.size + 1) (.slice (some ⟨wg.heap.size, 0, none⟩) 0 0) (.slice a0 0 cap0) [] l rfl rfl (Own2.empty hE1g.out (by have := LTg.out; omega)) RBEg.out LEN.out (by have := LTg.out; simp <;> omega) ?_; rfl; intro v2 wd ho2 hg2
          obtain ⟨hb2, hbx2, hs2⟩ := step_keep (base := w.heap.size) (Below.refl _ wg) (Nat.le_of_lt LTg.out) LTg.out (fun k hk => by have : wg.heap.size = k := Option.some.inj hk; have := LTg.out; omega) (hg2) HBXg.out
          have hx0g2 : wd.cell? ⟨w.heap.size, 0, none⟩ = some (.int .u32 (x1 : Int)) := by rw [cell_of_row _ _ _ _ _ _ hbx2]; rfl
          have hx1g2 : wd.cell? ⟨w.heap.size, 1, none⟩ = some (.int .u32 (x2 : Int)) := by rw [cell_of_row _ _ _ _ _ _ hbx2]; rfl
          have HO3 := hid (show Own2 (wd.alloc (.cells #[.int .u32 (x1 : Int), .int .u32 (x2 : Int)] 24)) (w.heap.size + 1) v2 l from ho2.below ((Below.refl _ _).alloc (Nat.le_refl _) _))
          have he0g := acell (o := (.cells #[.int .u32 (x1 : Int), .int .u32 (x2 : Int)] 24)) (show w.heap.size < wd.heap.size by omega) hx0g2
          have he1g := acell (o := (.cells #[.int .u32 (x1 : Int), .int .u32 (x2 : Int)] 24)) (show w.heap.size < wd.heap.size by omega) hx1g2
          have HY := hid (heap_alloc_new wd (.cells #[.int .u32 (x1 : Int), .int .u32 (x2 : Int)] 24))
          have HBX2 := hid hbx2
          clear ho2 hbx2 hg2
          refine hK.out _ _ ?_ (fun hHeld => ?_)
          · try dsimp only
            (first | (with_reducible refine ⟨?_, ?_⟩ <;> assumption) | go_keep | fail)
          clear hK K
          try simp only [Act.put, List.setIfInBounds_toArray, List.set_cons_zero, List.set_cons_succ]
          refine wpAnyH_ready (rs := [10]) (by kernel_rfl) (by simp) ?_
          refine AllReadyH.cons (o := { dst := some 35, op := Op.buildSlice 22 1 #[(0, Operand.tmp 34)], type := 22, pos := "law.go:34", after := #[{ on := 9, ground := Ground.data }, { on := 4, ground := Ground.guard }], guard := some (4, true) }) rfl (fun K hK => ?_) ?_
          · go_simp
            refine hK.out _ _ ?_ (fun hHeld => ?_)
            · try dsimp only
              (first | (with_reducible refine ⟨?_, ?_⟩ <;> assumption) | go_keep | fail)
            clear hK K
            try simp only [Act.put, List.setIfInBounds_toArray, List.set_cons_zero, List.set_cons_succ]
            refine wpAnyH_ready (rs := [11]) (by kernel_rfl) (by simp) ?_
            refine AllReadyH.cons (o := { dst := some 36, op := Op.call { callee := Callee.builtin Builtin.append, args := #[Operand.tmp 33, Operand.tmp 35], argTypes := #[22, 22] }, type := 22, pos := "law.go:34", after := #[{ on := 8, ground := Ground.data }, { on := 10, ground := Ground.data }, { on := 8, ground := Ground.chain }, { on := 4, ground := Ground.guard }], guard := some (4, true) }) rfl (fun K hK => ?_) ?_
            · refine step_app2 ?_ (.tmp 33) (.tmp 35) rfl (w.heap.size + 1) v2 (.slice (some ⟨wd.heap.size, 0, none⟩) 1 1) l [(x1, x2)] rfl rfl HO3.out (Rd2.one HY.out) LEN2.out (by have := LTg.out; have := hb2.size; simp <;> omega) ?_; rfl; intro v3 we ho4 hg4
              obtain ⟨hb4, hbx4, hs4⟩ := step_keep (base := w.heap.size) hb2 (Nat.le_of_lt LTg.out) (Nat.lt_of_lt_of_le LTg.out hb2.size) (fun k hk => (HO3.out.lt k hk).1) hg4 HBX2.out
              have hx0g4 : we.cell? ⟨w.heap.size, 0, none⟩ = some (.int .u32 (x1 : Int)) := by rw [cell_of_row _ _ _ _ _ _ hbx4]; rfl
              have hx1g4 : we.cell? ⟨w.heap.size, 1, none⟩ = some (.int .u32 (x2 : Int)) := by rw [cell_of_row _ _ _ _ _ _ hbx4]; rfl
              have HBX4 := hid hbx4
              clear hg4 hbx4
              refine hK.out _ _ ?_ (fun hHeld => ?_)
              · try dsimp only
                (first | (with_reducible refine ⟨?_, ?_⟩ <;> assumption) | go_keep | fail)
              clear hK K
              try simp only [Act.put, List.setIfInBounds_toArray, List.set_cons_zero, List.set_cons_succ]
              refine wpAnyH_ready (rs := [12]) (by kernel_rfl) (by simp) ?_
              refine AllReadyH.cons (o := { dst := some 37, op := Op.call { callee := Callee.value (Operand.func 7), args := #[Operand.tmp 36], argTypes := #[22] }, type := 3, pos := "law.go:34", after := #[{ on := 11, ground := Ground.data }, { on := 11, ground := Ground.chain }, { on := 4, ground := Ground.guard }], guard := some (4, true) }) rfl (fun K hK => ?_) ?_
              · go_simp
                go_at_call 7; (with_reducible refine (refoverlap_any v3 (l ++ [(x1, x2)]) _ ho4.rd FIT2.out).mono ?_); rintro e wf ⟨rfl, hb5⟩
                have hb6 : Below w.heap.size wg wf := hb4.trans (hb5.mono (by have := LTg.out; have := hb4.size; omega))
                have hbx5 := (hb5.block w.heap.size (by have := LTg.out; have := hb4.size; omega)).trans HBX4.out
                have hx0g5 : wf.cell? ⟨w.heap.size, 0, none⟩ = some (.int .u32 (x1 : Int)) := by rw [cell_of_row _ _ _ _ _ _ hbx5]; rfl
                have hx1g5 : wf.cell? ⟨w.heap.size, 1, none⟩ = some (.int .u32 (x2 : Int)) := by rw [cell_of_row _ _ _ _ _ _ hbx5]; rfl
                have HBX5 := hid hbx5
                clear hbx5 hb5 ho4
                go_wp2_with fail
                refine hK.out _ _ ?_ (fun hHeld => ?_)
                · try dsimp only
                  (first | (with_reducible refine ⟨?_, ?_⟩ <;> assumption) | go_keep | fail)
                clear hK K
                try simp only [Act.put, List.setIfInBounds_toArray, List.set_cons_zero, List.set_cons_succ]
                refine wpAnyH_take (i := 13) (oi := { dst := some 38, op := Op.binOp BinOp.eql 3 (Operand.tmp 30) (Operand.tmp 37) 3, type := 4, pos := "law.go:34", after := #[{ on := 5, ground := Ground.data }, { on := 12, ground := Ground.data }, { on := 4, ground := Ground.guard }], guard := some (4, true) }) (v := ?_) rfl (by kernel_rfl) (by kernel_rfl) (by kernel_rfl) (fun _ _ _ h => h) (Or.inl ⟨by rfl, ?_⟩) (by assumption) ?_
                rotate_left
                · intro w hSw
                  try dsimp only at hSw
                  go_simp
                  try (with_reducible rfl)
                try simp only [Act.put, List.setIfInBounds_toArray, List.set_cons_zero, List.set_cons_succ]
                refine wpAnyH_take (i := 14) (oi := { dst := some 39, op := Op.pick (Operand.tmp 29) (Operand.tmp 38) (Operand.const (Value.bool false)), type := 4, pos := "law.go:34", after := #[{ on := 4, ground := Ground.data }, { on := 13, ground := Ground.data }], guard := none }) (v := ?_) rfl (by kernel_rfl) (by kernel_rfl) (by kernel_rfl) (fun _ _ _ h => h) (Or.inl ⟨by rfl, ?_⟩) (by assumption) ?_
                rotate_left
                · intro w hSw
                  try dsimp only at hSw
                  go_simp
                  try (with_reducible rfl)
                try simp only [Act.put, List.setIfInBounds_toArray, List.set_cons_zero, List.set_cons_succ]
                refine wpAnyH_take (i := 15) (oi := { dst := some 40, op := Op.move (Operand.tmp 39), type := 4, pos := "law.go:34", after := #[{ on := 14, ground := Ground.data }, { on := 12, ground := Ground.chain }], guard := none }) (v := ?_) rfl (by kernel_rfl) (by kernel_rfl) (by kernel_rfl) (fun _ _ _ h => h) (Or.inl ⟨by rfl, ?_⟩) (by assumption) ?_
                rotate_left
                · intro w hSw
                  try dsimp only at hSw
                  go_simp
                  try (with_reducible rfl)
                try simp only [Act.put, List.setIfInBounds_toArray, List.set_cons_zero, List.set_cons_succ]
                refine wpAnyH_take (i := 16) (oi := { dst := some 41, op := Op.move (Operand.tmp 0), type := 22, pos := "law.go:34", after := #[{ on := 15, ground := Ground.guard }], guard := some (15, true) }) (v := ?_) rfl (by kernel_rfl) (by kernel_rfl) (by kernel_rfl) (fun _ _ _ h => h) (Or.inl ⟨by rfl, ?_⟩) (by assumption) ?_
                rotate_left
                · intro w hSw
                  try dsimp only at hSw
                  go_simp
                  try (with_reducible rfl)
                try simp only [Act.put, List.setIfInBounds_toArray, List.set_cons_zero, List.set_cons_succ]
                refine wpAnyH_take (i := 17) (oi := { dst := some 42, op := Op.call { callee := Callee.builtin Builtin.len, args := #[Operand.tmp 41], argTypes := #[22] }, type := 3, pos := "law.go:34", after := #[{ on := 16, ground := Ground.data }, { on := 15, ground := Ground.guard }], guard := some (15, true) }) (v := ?_) rfl (by kernel_rfl) (by kernel_rfl) (by kernel_rfl) (fun _ _ _ h => h) (Or.inl ⟨by rfl, ?_⟩) (by assumption) ?_
                rotate_left
                · intro w hSw
                  try dsimp only at hSw
                  go_simp
                  try (with_reducible rfl)
                try simp only [Act.put, List.setIfInBounds_toArray, List.set_cons_zero, List.set_cons_succ]
                refine wpAnyH_take (i := 18) (oi := { dst := some 43, op := Op.binOp BinOp.eql 3 (Operand.tmp 42) (Operand.const (Value.int IntKind.i64 0)) 3, type := 4, pos := "law.go:34", after := #[{ on := 17, ground := Ground.data }, { on := 15, ground := Ground.guard }], guard := some (15, true) }) (v := ?_) rfl (by kernel_rfl) (by kernel_rfl) (by kernel_rfl) (fun _ _ _ h => h) (Or.inl ⟨by rfl, ?_⟩) (by assumption) ?_
                rotate_left
                · intro w hSw
                  try dsimp only at hSw
                  go_simp
                  try (with_reducible rfl)
                try simp only [Act.put, List.setIfInBounds_toArray, List.set_cons_zero, List.set_cons_succ]
                refine wpAnyH_take (i := 19) (oi := { dst := some 44, op := Op.move (Operand.tmp 43), type := 4, pos := "law.go:34", after := #[{ on := 18, ground := Ground.data }, { on := 15, ground := Ground.chain }, { on := 15, ground := Ground.guard }], guard := some (15, true) }) (v := ?_) rfl (by kernel_rfl) (by kernel_rfl) (by kernel_rfl) (fun _ _ _ h => h) (Or.inl ⟨by rfl, ?_⟩) (by assumption) ?_
                rotate_left
                · intro w hSw
                  try dsimp only at hSw
                  go_simp
                  try (with_reducible rfl)
                try simp only [Act.put, List.setIfInBounds_toArray, List.set_cons_zero, List.set_cons_succ]
                refine wpAnyH_take (i := 20) (oi := { dst := some 45, op := Op.move (Operand.tmp 6), type := 3, pos := "law.go:34", after := #[{ on := 19, ground := Ground.guard }], guard := some (19, false) }) (v := undef) rfl (by kernel_rfl) (by kernel_rfl) (by kernel_rfl) (fun _ _ _ h => h) (Or.inr ⟨by rfl, rfl⟩) (by assumption) ?_
                try simp only [Act.put, List.setIfInBounds_toArray, List.set_cons_zero, List.set_cons_succ]
                refine wpAnyH_take (i := 21) (oi := { dst := some 46, op := Op.move (Operand.tmp 5), type := 3, pos := "law.go:34", after := #[{ on := 19, ground := Ground.guard }], guard := some (19, false) }) (v := undef) rfl (by kernel_rfl) (by kernel_rfl) (by kernel_rfl) (fun _ _ _ h => h) (Or.inr ⟨by rfl, rfl⟩) (by assumption) ?_
                try simp only [Act.put, List.setIfInBounds_toArray, List.set_cons_zero, List.set_cons_succ]
                refine wpAnyH_take (i := 22) (oi := { dst := some 47, op := Op.binOp BinOp.leq 3 (Operand.tmp 45) (Operand.tmp 46) 3, type := 4, pos := "law.go:34", after := #[{ on := 20, ground := Ground.data }, { on := 21, ground := Ground.data }, { on := 19, ground := Ground.guard }], guard := some (19, false) }) (v := undef) rfl (by kernel_rfl) (by kernel_rfl) (by kernel_rfl) (fun _ _ _ h => h) (Or.inr ⟨by rfl, rfl⟩) (by assumption) ?_
                try simp only [Act.put, List.setIfInBounds_toArray, List.set_cons_zero, List.set_cons_succ]
                refine wpAnyH_take (i := 23) (oi := { dst := some 48, op := Op.pick (Operand.tmp 44) (Operand.const (Value.bool true)) (Operand.tmp 47), type := 4, pos := "law.go:34", after := #[{ on := 19, ground := Ground.data }, { on := 22, ground := Ground.data }, { on := 15, ground := Ground.guard }], guard := some (15, true) }) (v := ?_) rfl (by kernel_rfl) (by kernel_rfl) (by kernel_rfl) (fun _ _ _ h => h) (Or.inl ⟨by rfl, ?_⟩) (by assumption) ?_
                rotate_left
                · intro w hSw
                  try dsimp only at hSw
                  go_simp
                  try (with_reducible rfl)
                try simp only [Act.put, List.setIfInBounds_toArray, List.set_cons_zero, List.set_cons_succ]
                refine wpAnyH_take (i := 24) (oi := { dst := some 49, op := Op.pick (Operand.tmp 40) (Operand.tmp 48) (Operand.const (Value.bool false)), type := 4, pos := "law.go:34", after := #[{ on := 15, ground := Ground.data }, { on := 23, ground := Ground.data }], guard := none }) (v := ?_) rfl (by kernel_rfl) (by kernel_rfl) (by kernel_rfl) (fun _ _ _ h => h) (Or.inl ⟨by rfl, ?_⟩) (by assumption) ?_
                rotate_left
                · intro w hSw
                  try dsimp only at hSw
                  go_simp
                  try (with_reducible rfl)
                try simp only [Act.put, List.setIfInBounds_toArray, List.set_cons_zero, List.set_cons_succ]
                refine wpAnyH_take (i := 25) (oi := { dst := some 4, op := Op.assign (Operand.tmp 49), type := 4, pos := "law.go:34", after := #[{ on := 24, ground := Ground.data }, { on := 19, ground := Ground.chain }, { on := 0, ground := Ground.phase }, { on := 1, ground := Ground.phase }, { on := 2, ground := Ground.phase }, { on := 3, ground := Ground.phase }, { on := 4, ground := Ground.phase }, { on := 5, ground := Ground.phase }, { on := 6, ground := Ground.phase }, { on := 7, ground := Ground.phase }, { on := 8, ground := Ground.phase }, { on := 9, ground := Ground.phase }, { on := 10, ground := Ground.phase }, { on := 11, ground := Ground.phase }, { on := 12, ground := Ground.phase }, { on := 13, ground := Ground.phase }, { on := 14, ground := Ground.phase }, { on := 15, ground := Ground.phase }, { on := 16, ground := Ground.phase }, { on := 17, ground := Ground.phase }, { on := 18, ground := Ground.phase }, { on := 19, ground := Ground.phase }, { on := 20, ground := Ground.phase }, { on := 21, ground := Ground.phase }, { on := 22, ground := Ground.phase }, { on := 23, ground := Ground.phase }, { on := 24, ground := Ground.phase }], guard := none }) (v := ?_) rfl (by kernel_rfl) (by kernel_rfl) (by kernel_rfl) (fun _ _ _ h => h) (Or.inl ⟨by rfl, ?_⟩) (by assumption) ?_
                rotate_left
                · intro w hSw
                  try dsimp only at hSw
                  go_simp
                  try (with_reducible rfl)
                try simp only [Act.put, List.setIfInBounds_toArray, List.set_cons_zero, List.set_cons_succ]
                refine wpAnyH_done (by kernel_rfl) ?_ _
                refine NoPanic.normal ?_
                go_wp2_with fail
                go_ret
                exact ⟨rfl, hwwg.trans (hb6.mono (Nat.le_refl _))⟩
              exact AllReadyH.nil
            exact AllReadyH.nil
          exact AllReadyH.nil
        refine AllReadyH.cons (o := { dst := some 35, op := Op.buildSlice 22 1 #[(0, Operand.tmp 34)], type := 22, pos := "law.go:34", after := #[{ on := 9, ground := Ground.data }, { on := 4, ground := Ground.guard }], guard := some (4, true) }) rfl (fun K hK => ?_) ?_
        · go_simp
          refine hK.out _ _ ?_ (fun hHeld => ?_)
          · try dsimp only
            (first | (with_reducible refine ⟨?_, ?_⟩ <;> assumption) | go_keep | fail)
          clear hK K
          try simp only [Act.put, List.setIfInBounds_toArray, List.set_cons_zero, List.set_cons_succ]
          refine wpAnyH_ready (rs := [8]) (by kernel_rfl) (by simp) ?_
          refine AllReadyH.cons (o := { dst := some 33, op := Op.call { callee := Callee.builtin Builtin.append, args := #[Operand.tmp 31, Operand.tmp 32], argTypes := #[22, 22] }, type := 22, pos := "law.go:34", after := #[{ on := 6, ground := Ground.data }, { on := 7, ground := Ground.data }, { on := 4, ground := Ground.chain }, { on := 4, ground := Ground.guard }], guard := some (4, true) }) rfl (fun K hK => ?_) ?_
          · refine step_app2 ?_ (.tmp 31) (.tmp 32) rfl (w.heap.size + 1) (.slice (some ⟨wg.heap.size, 0, none⟩) 0 0) (.slice a0 0 cap0) [] l rfl rfl (Own2.empty hE2g.out (by have := LTg.out; omega)) RBEXg.out LEN.out (by have := LTg.out; simp <;> omega) ?_; rfl; intro v2 wd ho2 hg2
            obtain ⟨hb2, hbx2, hs2⟩ := step_keep (base := w.heap.size) (wd := wg.alloc (.cells #[] 24)) (o := (.cells #[.int .u32 (x1 : Int), .int .u32 (x2 : Int)] 24)) ((Below.refl w.heap.size wg).alloc (Nat.le_of_lt LTg.out) _) (Nat.le_of_lt LTg.out) (by have := LTg.out; simp <;> omega) (fun k hk => by have : wg.heap.size = k := Option.some.inj hk; have := LTg.out; omega) (hg2) ((Below.heap_alloc _ _ _ LTg.out).trans HBXg.out)
            have hx0g2 : wd.cell? ⟨w.heap.size, 0, none⟩ = some (.int .u32 (x1 : Int)) := by rw [cell_of_row _ _ _ _ _ _ hbx2]; rfl
            have hx1g2 : wd.cell? ⟨w.heap.size, 1, none⟩ = some (.int .u32 (x2 : Int)) := by rw [cell_of_row _ _ _ _ _ _ hbx2]; rfl
            have HX2 := hid (((hg2).block (wg.heap.size + 1) (by simp <;> omega) (fun e => by have : wg.heap.size = wg.heap.size + 1 := Option.some.inj e.symm; omega)).trans hX2g.out)
            have HO2 := hid (show Own2 wd (w.heap.size + 1) v2 l from ho2)
            have HBX2 := hid hbx2
            clear ho2 hbx2 hg2
            refine hK.out _ _ ?_ (fun hHeld => ?_)
            · try dsimp only
              (first | (with_reducible refine ⟨?_, ?_⟩ <;> assumption) | go_keep | fail)
            clear hK K
            try simp only [Act.put, List.setIfInBounds_toArray, List.set_cons_zero, List.set_cons_succ]
            refine wpAnyH_ready (rs := [11]) (by kernel_rfl) (by simp) ?_
            refine AllReadyH.cons (o := { dst := some 36, op := Op.call { callee := Callee.builtin Builtin.append, args := #[Operand.tmp 33, Operand.tmp 35], argTypes := #[22, 22] }, type := 22, pos := "law.go:34", after := #[{ on := 8, ground := Ground.data }, { on := 10, ground := Ground.data }, { on := 8, ground := Ground.chain }, { on := 4, ground := Ground.guard }], guard := some (4, true) }) rfl (fun K hK => ?_) ?_
            · refine step_app2 ?_ (.tmp 33) (.tmp 35) rfl (w.heap.size + 1) v2 (.slice (some ⟨wg.heap.size + 1, 0, none⟩) 1 1) l [(x1, x2)] rfl rfl HO2.out (Rd2.one HX2.out) LEN2.out (by have := LTg.out; have := hb2.size; first | omega | (simp <;> omega)) ?_; rfl; intro v3 we ho4 hg4
              obtain ⟨hb4, hbx4, hs4⟩ := step_keep0 (base := w.heap.size) hb2 (Nat.lt_of_lt_of_le LTg.out hb2.size) (fun k hk => (HO2.out.lt k hk).1) hg4 HBX2.out
              have hx0g4 : we.cell? ⟨w.heap.size, 0, none⟩ = some (.int .u32 (x1 : Int)) := by rw [cell_of_row _ _ _ _ _ _ hbx4]; rfl
              have hx1g4 : we.cell? ⟨w.heap.size, 1, none⟩ = some (.int .u32 (x2 : Int)) := by rw [cell_of_row _ _ _ _ _ _ hbx4]; rfl
              have HBX4 := hid hbx4
              clear hg4 hbx4
              refine hK.out _ _ ?_ (fun hHeld => ?_)
              · try dsimp only
                (first | (with_reducible refine ⟨?_, ?_⟩ <;> assumption) | go_keep | fail)
              clear hK K
              try simp only [Act.put, List.setIfInBounds_toArray, List.set_cons_zero, List.set_cons_succ]
              refine wpAnyH_ready (rs := [12]) (by kernel_rfl) (by simp) ?_
              refine AllReadyH.cons (o := { dst := some 37, op := Op.call { callee := Callee.value (Operand.func 7), args := #[Operand.tmp 36], argTypes := #[22] }, type := 3, pos := "law.go:34", after := #[{ on := 11, ground := Ground.data }, { on := 11, ground := Ground.chain }, { on := 4, ground := Ground.guard }], guard := some (4, true) }) rfl (fun K hK => ?_) ?_
              · go_simp
                go_at_call 7; (with_reducible refine (refoverlap_any v3 (l ++ [(x1, x2)]) _ ho4.rd FIT2.out).mono ?_); rintro e wf ⟨rfl, hb5⟩
                have hb6 : Below w.heap.size wg wf := hb4.trans (hb5.mono (by have := LTg.out; have := hb4.size; omega))
                have hbx5 := (hb5.block w.heap.size (by have := LTg.out; have := hb4.size; omega)).trans HBX4.out
                have hx0g5 : wf.cell? ⟨w.heap.size, 0, none⟩ = some (.int .u32 (x1 : Int)) := by rw [cell_of_row _ _ _ _ _ _ hbx5]; rfl
                have hx1g5 : wf.cell? ⟨w.heap.size, 1, none⟩ = some (.int .u32 (x2 : Int)) := by rw [cell_of_row _ _ _ _ _ _ hbx5]; rfl
                have HBX5 := hid hbx5
                clear hbx5 hb5 ho4
                go_wp2_with fail
                refine hK.out _ _ ?_ (fun hHeld => ?_)
                · try dsimp only
                  (first | (with_reducible refine ⟨?_, ?_⟩ <;> assumption) | go_keep | fail)
                clear hK K
                try simp only [Act.put, List.setIfInBounds_toArray, List.set_cons_zero, List.set_cons_succ]
                refine wpAnyH_take (i := 13) (oi := { dst := some 38, op := Op.binOp BinOp.eql 3 (Operand.tmp 30) (Operand.tmp 37) 3, type := 4, pos := "law.go:34", after := #[{ on := 5, ground := Ground.data }, { on := 12, ground := Ground.data }, { on := 4, ground := Ground.guard }], guard := some (4, true) }) (v := ?_) rfl (by kernel_rfl) (by kernel_rfl) (by kernel_rfl) (fun _ _ _ h => h) (Or.inl ⟨by rfl, ?_⟩) (by assumption) ?_
                rotate_left
                · intro w hSw
                  try dsimp only at hSw
                  go_simp
                  try (with_reducible rfl)
                try simp only [Act.put, List.setIfInBounds_toArray, List.set_cons_zero, List.set_cons_succ]
                refine wpAnyH_take (i := 14) (oi := { dst := some 39, op := Op.pick (Operand.tmp 29) (Operand.tmp 38) (Operand.const (Value.bool false)), type := 4, pos := "law.go:34", after := #[{ on := 4, ground := Ground.data }, { on := 13, ground := Ground.data }], guard := none }) (v := ?_) rfl (by kernel_rfl) (by kernel_rfl) (by kernel_rfl) (fun _ _ _ h => h) (Or.inl ⟨by rfl, ?_⟩) (by assumption) ?_
                rotate_left
                · intro w hSw
                  try dsimp only at hSw
                  go_simp
                  try (with_reducible rfl)
                try simp only [Act.put, List.setIfInBounds_toArray, List.set_cons_zero, List.set_cons_succ]
                refine wpAnyH_take (i := 15) (oi := { dst := some 40, op := Op.move (Operand.tmp 39), type := 4, pos := "law.go:34", after := #[{ on := 14, ground := Ground.data }, { on := 12, ground := Ground.chain }], guard := none }) (v := ?_) rfl (by kernel_rfl) (by kernel_rfl) (by kernel_rfl) (fun _ _ _ h => h) (Or.inl ⟨by rfl, ?_⟩) (by assumption) ?_
                rotate_left
                · intro w hSw
                  try dsimp only at hSw
                  go_simp
                  try (with_reducible rfl)
                try simp only [Act.put, List.setIfInBounds_toArray, List.set_cons_zero, List.set_cons_succ]
                refine wpAnyH_take (i := 16) (oi := { dst := some 41, op := Op.move (Operand.tmp 0), type := 22, pos := "law.go:34", after := #[{ on := 15, ground := Ground.guard }], guard := some (15, true) }) (v := ?_) rfl (by kernel_rfl) (by kernel_rfl) (by kernel_rfl) (fun _ _ _ h => h) (Or.inl ⟨by rfl, ?_⟩) (by assumption) ?_
                rotate_left
                · intro w hSw
                  try dsimp only at hSw
                  go_simp
                  try (with_reducible rfl)
                try simp only [Act.put, List.setIfInBounds_toArray, List.set_cons_zero, List.set_cons_succ]
                refine wpAnyH_take (i := 17) (oi := { dst := some 42, op := Op.call { callee := Callee.builtin Builtin.len, args := #[Operand.tmp 41], argTypes := #[22] }, type := 3, pos := "law.go:34", after := #[{ on := 16, ground := Ground.data }, { on := 15, ground := Ground.guard }], guard := some (15, true) }) (v := ?_) rfl (by kernel_rfl) (by kernel_rfl) (by kernel_rfl) (fun _ _ _ h => h) (Or.inl ⟨by rfl, ?_⟩) (by assumption) ?_
                rotate_left
                · intro w hSw
                  try dsimp only at hSw
                  go_simp
                  try (with_reducible rfl)
                try simp only [Act.put, List.setIfInBounds_toArray, List.set_cons_zero, List.set_cons_succ]
                refine wpAnyH_take (i := 18) (oi := { dst := some 43, op := Op.binOp BinOp.eql 3 (Operand.tmp 42) (Operand.const (Value.int IntKind.i64 0)) 3, type := 4, pos := "law.go:34", after := #[{ on := 17, ground := Ground.data }, { on := 15, ground := Ground.guard }], guard := some (15, true) }) (v := ?_) rfl (by kernel_rfl) (by kernel_rfl) (by kernel_rfl) (fun _ _ _ h => h) (Or.inl ⟨by rfl, ?_⟩) (by assumption) ?_
                rotate_left
                · intro w hSw
                  try dsimp only at hSw
                  go_simp
                  try (with_reducible rfl)
                try simp only [Act.put, List.setIfInBounds_toArray, List.set_cons_zero, List.set_cons_succ]
                refine wpAnyH_take (i := 19) (oi := { dst := some 44, op := Op.move (Operand.tmp 43), type := 4, pos := "law.go:34", after := #[{ on := 18, ground := Ground.data }, { on := 15, ground := Ground.chain }, { on := 15, ground := Ground.guard }], guard := some (15, true) }) (v := ?_) rfl (by kernel_rfl) (by kernel_rfl) (by kernel_rfl) (fun _ _ _ h => h) (Or.inl ⟨by rfl, ?_⟩) (by assumption) ?_
                rotate_left
                · intro w hSw
                  try dsimp only at hSw
                  go_simp
                  try (with_reducible rfl)
                try simp only [Act.put, List.setIfInBounds_toArray, List.set_cons_zero, List.set_cons_succ]
                refine wpAnyH_take (i := 20) (oi := { dst := some 45, op := Op.move (Operand.tmp 6), type := 3, pos := "law.go:34", after := #[{ on := 19, ground := Ground.guard }], guard := some (19, false) }) (v := undef) rfl (by kernel_rfl) (by kernel_rfl) (by kernel_rfl) (fun _ _ _ h => h) (Or.inr ⟨by rfl, rfl⟩) (by assumption) ?_
                try simp only [Act.put, List.setIfInBounds_toArray, List.set_cons_zero, List.set_cons_succ]
                refine wpAnyH_take (i := 21) (oi := { dst := some 46, op := Op.move (Operand.tmp 5), type := 3, pos := "law.go:34", after := #[{ on := 19, ground := Ground.guard }], guard := some (19, false) }) (v := undef) rfl (by kernel_rfl) (by kernel_rfl) (by kernel_rfl) (fun _ _ _ h => h) (Or.inr ⟨by rfl, rfl⟩) (by assumption) ?_
                try simp only [Act.put, List.setIfInBounds_toArray, List.set_cons_zero, List.set_cons_succ]
                refine wpAnyH_take (i := 22) (oi := { dst := some 47, op := Op.binOp BinOp.leq 3 (Operand.tmp 45) (Operand.tmp 46) 3, type := 4, pos := "law.go:34", after := #[{ on := 20, ground := Ground.data }, { on := 21, ground := Ground.data }, { on := 19, ground := Ground.guard }], guard := some (19, false) }) (v := undef) rfl (by kernel_rfl) (by kernel_rfl) (by kernel_rfl) (fun _ _ _ h => h) (Or.inr ⟨by rfl, rfl⟩) (by assumption) ?_
                try simp only [Act.put, List.setIfInBounds_toArray, List.set_cons_zero, List.set_cons_succ]
                refine wpAnyH_take (i := 23) (oi := { dst := some 48, op := Op.pick (Operand.tmp 44) (Operand.const (Value.bool true)) (Operand.tmp 47), type := 4, pos := "law.go:34", after := #[{ on := 19, ground := Ground.data }, { on := 22, ground := Ground.data }, { on := 15, ground := Ground.guard }], guard := some (15, true) }) (v := ?_) rfl (by kernel_rfl) (by kernel_rfl) (by kernel_rfl) (fun _ _ _ h => h) (Or.inl ⟨by rfl, ?_⟩) (by assumption) ?_
                rotate_left
                · intro w hSw
                  try dsimp only at hSw
                  go_simp
                  try (with_reducible rfl)
                try simp only [Act.put, List.setIfInBounds_toArray, List.set_cons_zero, List.set_cons_succ]
                refine wpAnyH_take (i := 24) (oi := { dst := some 49, op := Op.pick (Operand.tmp 40) (Operand.tmp 48) (Operand.const (Value.bool false)), type := 4, pos := "law.go:34", after := #[{ on := 15, ground := Ground.data }, { on := 23, ground := Ground.data }], guard := none }) (v := ?_) rfl (by kernel_rfl) (by kernel_rfl) (by kernel_rfl) (fun _ _ _ h => h) (Or.inl ⟨by rfl, ?_⟩) (by assumption) ?_
                rotate_left
                · intro w hSw
                  try dsimp only at hSw
                  go_simp
                  try (with_reducible rfl)
                try simp only [Act.put, List.setIfInBounds_toArray, List.set_cons_zero, List.set_cons_succ]
                refine wpAnyH_take (i := 25) (oi := { dst := some 4, op := Op.assign (Operand.tmp 49), type := 4, pos := "law.go:34", after := #[{ on := 24, ground := Ground.data }, { on := 19, ground := Ground.chain }, { on := 0, ground := Ground.phase }, { on := 1, ground := Ground.phase }, { on := 2, ground := Ground.phase }, { on := 3, ground := Ground.phase }, { on := 4, ground := Ground.phase }, { on := 5, ground := Ground.phase }, { on := 6, ground := Ground.phase }, { on := 7, ground := Ground.phase }, { on := 8, ground := Ground.phase }, { on := 9, ground := Ground.phase }, { on := 10, ground := Ground.phase }, { on := 11, ground := Ground.phase }, { on := 12, ground := Ground.phase }, { on := 13, ground := Ground.phase }, { on := 14, ground := Ground.phase }, { on := 15, ground := Ground.phase }, { on := 16, ground := Ground.phase }, { on := 17, ground := Ground.phase }, { on := 18, ground := Ground.phase }, { on := 19, ground := Ground.phase }, { on := 20, ground := Ground.phase }, { on := 21, ground := Ground.phase }, { on := 22, ground := Ground.phase }, { on := 23, ground := Ground.phase }, { on := 24, ground := Ground.phase }], guard := none }) (v := ?_) rfl (by kernel_rfl) (by kernel_rfl) (by kernel_rfl) (fun _ _ _ h => h) (Or.inl ⟨by rfl, ?_⟩) (by assumption) ?_
                rotate_left
                · intro w hSw
                  try dsimp only at hSw
                  go_simp
                  try (with_reducible rfl)
                try simp only [Act.put, List.setIfInBounds_toArray, List.set_cons_zero, List.set_cons_succ]
                refine wpAnyH_done (by kernel_rfl) ?_ _
                refine NoPanic.normal ?_
                go_wp2_with fail
                go_ret
                exact ⟨rfl, hwwg.trans (hb6.mono (Nat.le_refl _))⟩
              exact AllReadyH.nil
            exact AllReadyH.nil
          exact AllReadyH.nil
        exact AllReadyH.nil
      refine AllReadyH.cons (o := { dst := some 35, op := Op.buildSlice 22 1 #[(0, Operand.tmp 34)], type := 22, pos := "law.go:34", after := #[{ on := 9, ground := Ground.data }, { on := 4, ground := Ground.guard }], guard := some (4, true) }) rfl (fun K hK => ?_) ?_
      · go_simp
        refine hK.out _ _ ?_ (fun hHeld => ?_)
        · try dsimp only
          (first | (with_reducible refine ⟨?_, ?_⟩ <;> assumption) | go_keep | fail)
        clear hK K
        try simp only [Act.put, List.setIfInBounds_toArray, List.set_cons_zero, List.set_cons_succ]
        refine wpAnyH_ready (rs := [6]) (by kernel_rfl) (by simp) ?_
        refine AllReadyH.cons (o := { dst := some 31, op := Op.buildSlice 22 0 #[], type := 22, pos := "law.go:34", after := #[{ on := 4, ground := Ground.guard }], guard := some (4, true) }) rfl (fun K hK => ?_) ?_
        · go_simp
          refine hK.out _ _ ?_ (fun hHeld => ?_)
          · try dsimp only
            (first | (with_reducible refine ⟨?_, ?_⟩ <;> assumption) | go_keep | fail)
          clear hK K
          try simp only [Act.put, List.setIfInBounds_toArray, List.set_cons_zero, List.set_cons_succ]
          refine wpAnyH_ready (rs := [8]) (by kernel_rfl) (by simp) ?_
          refine AllReadyH.cons (o := { dst := some 33, op := Op.call { callee := Callee.builtin Builtin.append, args := #[Operand.tmp 31, Operand.tmp 32], argTypes := #[22, 22] }, type := 22, pos := "law.go:34", after := #[{ on := 6, ground := Ground.data }, { on := 7, ground := Ground.data }, { on := 4, ground := Ground.chain }, { on := 4, ground := Ground.guard }], guard := some (4, true) }) rfl (fun K hK => ?_) ?_
          · refine step_app2 ?_ (.tmp 31) (.tmp 32) rfl (w.heap.size + 1) (.slice (some ⟨wg.heap.size + 1, 0, none⟩) 0 0) (.slice a0 0 cap0) [] l rfl rfl (Own2.empty hE3g.out (by have := LTg.out; omega)) RBXEg.out LEN.out (by have := LTg.out; simp <;> omega) ?_; rfl; intro v2 wd ho2 hg2
            obtain ⟨hb2, hbx2, hs2⟩ := step_keep (base := w.heap.size) (wd := wg.alloc (.cells #[.int .u32 (x1 : Int), .int .u32 (x2 : Int)] 24)) (o := (.cells #[] 24)) ((Below.refl w.heap.size wg).alloc (Nat.le_of_lt LTg.out) _) (Nat.le_of_lt LTg.out) (by have := LTg.out; simp <;> omega) (fun k hk => by have : wg.heap.size + 1 = k := Option.some.inj hk; have := LTg.out; omega) (hg2) ((Below.heap_alloc _ _ _ LTg.out).trans HBXg.out)
            have hx0g2 : wd.cell? ⟨w.heap.size, 0, none⟩ = some (.int .u32 (x1 : Int)) := by rw [cell_of_row _ _ _ _ _ _ hbx2]; rfl
            have hx1g2 : wd.cell? ⟨w.heap.size, 1, none⟩ = some (.int .u32 (x2 : Int)) := by rw [cell_of_row _ _ _ _ _ _ hbx2]; rfl
            have HX2 := hid (((hg2).block (wg.heap.size) (by simp <;> omega) (fun e => by have : wg.heap.size + 1 = wg.heap.size := Option.some.inj e.symm; omega)).trans hX3g.out)
            have HO2 := hid (show Own2 wd (w.heap.size + 1) v2 l from ho2)
            have HBX2 := hid hbx2
            clear ho2 hbx2 hg2
            refine hK.out _ _ ?_ (fun hHeld => ?_)
            · try dsimp only
              (first | (with_reducible refine ⟨?_, ?_⟩ <;> assumption) | go_keep | fail)
            clear hK K
            try simp only [Act.put, List.setIfInBounds_toArray, List.set_cons_zero, List.set_cons_succ]
            refine wpAnyH_ready (rs := [11]) (by kernel_rfl) (by simp) ?_
            refine AllReadyH.cons (o := { dst := some 36, op := Op.call { callee := Callee.builtin Builtin.append, args := #[Operand.tmp 33, Operand.tmp 35], argTypes := #[22, 22] }, type := 22, pos := "law.go:34", after := #[{ on := 8, ground := Ground.data }, { on := 10, ground := Ground.data }, { on := 8, ground := Ground.chain }, { on := 4, ground := Ground.guard }], guard := some (4, true) }) rfl (fun K hK => ?_) ?_
            · refine step_app2 ?_ (.tmp 33) (.tmp 35) rfl (w.heap.size + 1) v2 (.slice (some ⟨wg.heap.size, 0, none⟩) 1 1) l [(x1, x2)] rfl rfl HO2.out (Rd2.one HX2.out) LEN2.out (by have := LTg.out; have := hb2.size; first | omega | (simp <;> omega)) ?_; rfl; intro v3 we ho4 hg4
              obtain ⟨hb4, hbx4, hs4⟩ := step_keep0 (base := w.heap.size) hb2 (Nat.lt_of_lt_of_le LTg.out hb2.size) (fun k hk => (HO2.out.lt k hk).1) hg4 HBX2.out
              have hx0g4 : we.cell? ⟨w.heap.size, 0, none⟩ = some (.int .u32 (x1 : Int)) := by rw [cell_of_row _ _ _ _ _ _ hbx4]; rfl
              have hx1g4 : we.cell? ⟨w.heap.size, 1, none⟩ = some (.int .u32 (x2 : Int)) := by rw [cell_of_row _ _ _ _ _ _ hbx4]; rfl
              have HBX4 := hid hbx4
              clear hg4 hbx4
              refine hK.out _ _ ?_ (fun hHeld => ?_)
              · try dsimp only
                (first | (with_reducible refine ⟨?_, ?_⟩ <;> assumption) | go_keep | fail)
              clear hK K
              try simp only [Act.put, List.setIfInBounds_toArray, List.set_cons_zero, List.set_cons_succ]
              refine wpAnyH_ready (rs := [12]) (by kernel_rfl) (by simp) ?_
              refine AllReadyH.cons (o := { dst := some 37, op := Op.call { callee := Callee.value (Operand.func 7), args := #[Operand.tmp 36], argTypes := #[22] }, type := 3, pos := "law.go:34", after := #[{ on := 11, ground := Ground.data }, { on := 11, ground := Ground.chain }, { on := 4, ground := Ground.guard }], guard := some (4, true) }) rfl (fun K hK => ?_) ?_
              · go_simp
                go_at_call 7; (with_reducible refine (refoverlap_any v3 (l ++ [(x1, x2)]) _ ho4.rd FIT2.out).mono ?_); rintro e wf ⟨rfl, hb5⟩
                have hb6 : Below w.heap.size wg wf := hb4.trans (hb5.mono (by have := LTg.out; have := hb4.size; omega))
                have hbx5 := (hb5.block w.heap.size (by have := LTg.out; have := hb4.size; omega)).trans HBX4.out
                have hx0g5 : wf.cell? ⟨w.heap.size, 0, none⟩ = some (.int .u32 (x1 : Int)) := by rw [cell_of_row _ _ _ _ _ _ hbx5]; rfl
                have hx1g5 : wf.cell? ⟨w.heap.size, 1, none⟩ = some (.int .u32 (x2 : Int)) := by rw [cell_of_row _ _ _ _ _ _ hbx5]; rfl
                have HBX5 := hid hbx5
                clear hbx5 hb5 ho4
                go_wp2_with fail
                refine hK.out _ _ ?_ (fun hHeld => ?_)
                · try dsimp only
                  (first | (with_reducible refine ⟨?_, ?_⟩ <;> assumption) | go_keep | fail)
                clear hK K
                try simp only [Act.put, List.setIfInBounds_toArray, List.set_cons_zero, List.set_cons_succ]
                refine wpAnyH_take (i := 13) (oi := { dst := some 38, op := Op.binOp BinOp.eql 3 (Operand.tmp 30) (Operand.tmp 37) 3, type := 4, pos := "law.go:34", after := #[{ on := 5, ground := Ground.data }, { on := 12, ground := Ground.data }, { on := 4, ground := Ground.guard }], guard := some (4, true) }) (v := ?_) rfl (by kernel_rfl) (by kernel_rfl) (by kernel_rfl) (fun _ _ _ h => h) (Or.inl ⟨by rfl, ?_⟩) (by assumption) ?_
                rotate_left
                · intro w hSw
                  try dsimp only at hSw
                  go_simp
                  try (with_reducible rfl)
                try simp only [Act.put, List.setIfInBounds_toArray, List.set_cons_zero, List.set_cons_succ]
                refine wpAnyH_take (i := 14) (oi := { dst := some 39, op := Op.pick (Operand.tmp 29) (Operand.tmp 38) (Operand.const (Value.bool false)), type := 4, pos := "law.go:34", after := #[{ on := 4, ground := Ground.data }, { on := 13, ground := Ground.data }], guard := none }) (v := ?_) rfl (by kernel_rfl) (by kernel_rfl) (by kernel_rfl) (fun _ _ _ h => h) (Or.inl ⟨by rfl, ?_⟩) (by assumption) ?_
                rotate_left
                · intro w hSw
                  try dsimp only at hSw
                  go_simp
                  try (with_reducible rfl)
                try simp only [Act.put, List.setIfInBounds_toArray, List.set_cons_zero, List.set_cons_succ]
                refine wpAnyH_take (i := 15) (oi := { dst := some 40, op := Op.move (Operand.tmp 39), type := 4, pos := "law.go:34", after := #[{ on := 14, ground := Ground.data }, { on := 12, ground := Ground.chain }], guard := none }) (v := ?_) rfl (by kernel_rfl) (by kernel_rfl) (by kernel_rfl) (fun _ _ _ h => h) (Or.inl ⟨by rfl, ?_⟩) (by assumption) ?_
                rotate_left
                · intro w hSw
                  try dsimp only at hSw
                  go_simp
                  try (with_reducible rfl)
                try simp only [Act.put, List.setIfInBounds_toArray, List.set_cons_zero, List.set_cons_succ]
                refine wpAnyH_take (i := 16) (oi := { dst := some 41, op := Op.move (Operand.tmp 0), type := 22, pos := "law.go:34", after := #[{ on := 15, ground := Ground.guard }], guard := some (15, true) }) (v := ?_) rfl (by kernel_rfl) (by kernel_rfl) (by kernel_rfl) (fun _ _ _ h => h) (Or.inl ⟨by rfl, ?_⟩) (by assumption) ?_
                rotate_left
                · intro w hSw
                  try dsimp only at hSw
                  go_simp
                  try (with_reducible rfl)
                try simp only [Act.put, List.setIfInBounds_toArray, List.set_cons_zero, List.set_cons_succ]
                refine wpAnyH_take (i := 17) (oi := { dst := some 42, op := Op.call { callee := Callee.builtin Builtin.len, args := #[Operand.tmp 41], argTypes := #[22] }, type := 3, pos := "law.go:34", after := #[{ on := 16, ground := Ground.data }, { on := 15, ground := Ground.guard }], guard := some (15, true) }) (v := ?_) rfl (by kernel_rfl) (by kernel_rfl) (by kernel_rfl) (fun _ _ _ h => h) (Or.inl ⟨by rfl, ?_⟩) (by assumption) ?_
                rotate_left
                · intro w hSw
                  try dsimp only at hSw
                  go_simp
                  try (with_reducible rfl)
                try simp only [Act.put, List.setIfInBounds_toArray, List.set_cons_zero, List.set_cons_succ]
                refine wpAnyH_take (i := 18) (oi := { dst := some 43, op := Op.binOp BinOp.eql 3 (Operand.tmp 42) (Operand.const (Value.int IntKind.i64 0)) 3, type := 4, pos := "law.go:34", after := #[{ on := 17, ground := Ground.data }, { on := 15, ground := Ground.guard }], guard := some (15, true) }) (v := ?_) rfl (by kernel_rfl) (by kernel_rfl) (by kernel_rfl) (fun _ _ _ h => h) (Or.inl ⟨by rfl, ?_⟩) (by assumption) ?_
                rotate_left
                · intro w hSw
                  try dsimp only at hSw
                  go_simp
                  try (with_reducible rfl)
                try simp only [Act.put, List.setIfInBounds_toArray, List.set_cons_zero, List.set_cons_succ]
                refine wpAnyH_take (i := 19) (oi := { dst := some 44, op := Op.move (Operand.tmp 43), type := 4, pos := "law.go:34", after := #[{ on := 18, ground := Ground.data }, { on := 15, ground := Ground.chain }, { on := 15, ground := Ground.guard }], guard := some (15, true) }) (v := ?_) rfl (by kernel_rfl) (by kernel_rfl) (by kernel_rfl) (fun _ _ _ h => h) (Or.inl ⟨by rfl, ?_⟩) (by assumption) ?_
                rotate_left
                · intro w hSw
                  try dsimp only at hSw
                  go_simp
                  try (with_reducible rfl)
                try simp only [Act.put, List.setIfInBounds_toArray, List.set_cons_zero, List.set_cons_succ]
                refine wpAnyH_take (i := 20) (oi := { dst := some 45, op := Op.move (Operand.tmp 6), type := 3, pos := "law.go:34", after := #[{ on := 19, ground := Ground.guard }], guard := some (19, false) }) (v := undef) rfl (by kernel_rfl) (by kernel_rfl) (by kernel_rfl) (fun _ _ _ h => h) (Or.inr ⟨by rfl, rfl⟩) (by assumption) ?_
                try simp only [Act.put, List.setIfInBounds_toArray, List.set_cons_zero, List.set_cons_succ]
                refine wpAnyH_take (i := 21) (oi := { dst := some 46, op := Op.move (Operand.tmp 5), type := 3, pos := "law.go:34", after := #[{ on := 19, ground := Ground.guard }], guard := some (19, false) }) (v := undef) rfl (by kernel_rfl) (by kernel_rfl) (by kernel_rfl) (fun _ _ _ h => h) (Or.inr ⟨by rfl, rfl⟩) (by assumption) ?_
                try simp only [Act.put, List.setIfInBounds_toArray, List.set_cons_zero, List.set_cons_succ]
                refine wpAnyH_take (i := 22) (oi := { dst := some 47, op := Op.binOp BinOp.leq 3 (Operand.tmp 45) (Operand.tmp 46) 3, type := 4, pos := "law.go:34", after := #[{ on := 20, ground := Ground.data }, { on := 21, ground := Ground.data }, { on := 19, ground := Ground.guard }], guard := some (19, false) }) (v := undef) rfl (by kernel_rfl) (by kernel_rfl) (by kernel_rfl) (fun _ _ _ h => h) (Or.inr ⟨by rfl, rfl⟩) (by assumption) ?_
                try simp only [Act.put, List.setIfInBounds_toArray, List.set_cons_zero, List.set_cons_succ]
                refine wpAnyH_take (i := 23) (oi := { dst := some 48, op := Op.pick (Operand.tmp 44) (Operand.const (Value.bool true)) (Operand.tmp 47), type := 4, pos := "law.go:34", after := #[{ on := 19, ground := Ground.data }, { on := 22, ground := Ground.data }, { on := 15, ground := Ground.guard }], guard := some (15, true) }) (v := ?_) rfl (by kernel_rfl) (by kernel_rfl) (by kernel_rfl) (fun _ _ _ h => h) (Or.inl ⟨by rfl, ?_⟩) (by assumption) ?_
                rotate_left
                · intro w hSw
                  try dsimp only at hSw
                  go_simp
                  try (with_reducible rfl)
                try simp only [Act.put, List.setIfInBounds_toArray, List.set_cons_zero, List.set_cons_succ]
                refine wpAnyH_take (i := 24) (oi := { dst := some 49, op := Op.pick (Operand.tmp 40) (Operand.tmp 48) (Operand.const (Value.bool false)), type := 4, pos := "law.go:34", after := #[{ on := 15, ground := Ground.data }, { on := 23, ground := Ground.data }], guard := none }) (v := ?_) rfl (by kernel_rfl) (by kernel_rfl) (by kernel_rfl) (fun _ _ _ h => h) (Or.inl ⟨by rfl, ?_⟩) (by assumption) ?_
                rotate_left
                · intro w hSw
                  try dsimp only at hSw
                  go_simp
                  try (with_reducible rfl)
                try simp only [Act.put, List.setIfInBounds_toArray, List.set_cons_zero, List.set_cons_succ]
                refine wpAnyH_take (i := 25) (oi := { dst := some 4, op := Op.assign (Operand.tmp 49), type := 4, pos := "law.go:34", after := #[{ on := 24, ground := Ground.data }, { on := 19, ground := Ground.chain }, { on := 0, ground := Ground.phase }, { on := 1, ground := Ground.phase }, { on := 2, ground := Ground.phase }, { on := 3, ground := Ground.phase }, { on := 4, ground := Ground.phase }, { on := 5, ground := Ground.phase }, { on := 6, ground := Ground.phase }, { on := 7, ground := Ground.phase }, { on := 8, ground := Ground.phase }, { on := 9, ground := Ground.phase }, { on := 10, ground := Ground.phase }, { on := 11, ground := Ground.phase }, { on := 12, ground := Ground.phase }, { on := 13, ground := Ground.phase }, { on := 14, ground := Ground.phase }, { on := 15, ground := Ground.phase }, { on := 16, ground := Ground.phase }, { on := 17, ground := Ground.phase }, { on := 18, ground := Ground.phase }, { on := 19, ground := Ground.phase }, { on := 20, ground := Ground.phase }, { on := 21, ground := Ground.phase }, { on := 22, ground := Ground.phase }, { on := 23, ground := Ground.phase }, { on := 24, ground := Ground.phase }], guard := none }) (v := ?_) rfl (by kernel_rfl) (by kernel_rfl) (by kernel_rfl) (fun _ _ _ h => h) (Or.inl ⟨by rfl, ?_⟩) (by assumption) ?_
                rotate_left
                · intro w hSw
                  try dsimp only at hSw
                  go_simp
                  try (with_reducible rfl)
                try simp only [Act.put, List.setIfInBounds_toArray, List.set_cons_zero, List.set_cons_succ]
                refine wpAnyH_done (by kernel_rfl) ?_ _
                refine NoPanic.normal ?_
                go_wp2_with fail
                go_ret
                exact ⟨rfl, hwwg.trans (hb6.mono (Nat.le_refl _))⟩
              exact AllReadyH.nil
            exact AllReadyH.nil
          exact AllReadyH.nil
        exact AllReadyH.nil
      exact AllReadyH.nil
    exact AllReadyH.nil

set_option maxRecDepth 100000 in
set_option maxHeartbeats 8000000 in
theorem ov_some (a0 : Option Addr) (K cap0 : Nat) (x1 x2 : Nat) (l : List (Nat × Nat)) (w : World) (hx1 : x1 < 4294967296) (hx2 : x2 < 4294967296) (hcm : cap0 ≤ 9223372036854775807) (hrd : Rd2 w (.slice a0 K cap0) l) (HFIT : Hid (Cap.fits l)) (HL : Hid (l.length = K)) (h0 : 0 < K) (hK1 : K ≤ 100) (hK2 : K ≤ cap0) :
    Calls Try.prog 3 #[.slice a0 K cap0, .agg #[.int .u32 (x1 : Int), .int .u32 (x2 : Int)]] w fun e w' => e = .returned (.bool true) ∧ Below w.heap.size w w' := by
  have LEN := hid (show ([] : List (Nat × Nat)).length + l.length ≤ 1000000 by rw [HL.out]; simp <;> omega)
  have LEN2 := hid (show l.length + [(x1, x2)].length ≤ 1000000 by rw [HL.out]; simp <;> omega)
  have FIT2 := hid (Cap.fits_snoc l (x1, x2) HFIT.out hx1 hx2)
  have hq : ((K : Int) == 0) = false := by rw [beq_eq_false_iff_ne]; omega
  have hle : (Cap.ov (l ++ [(x1, x2)]) : Int) ≤ (Cap.ov l : Int) := by
    have := Cap.ov_snoc l (x1, x2) (by rintro rfl; have := HL.out; simp at this; try omega)
    omega
  go_enter Try.func3, Try.ntmps3
  go_wp2_with fail
  refine (awake3_any _).mono ?_
  rintro e wa ⟨rfl, hba⟩
  have hbx : wa.heap[w.heap.size]? = some (.cells #[.int .u32 (x1 : Int), .int .u32 (x2 : Int)] 24 (0, 0)) := (hba.block _ (by simp)).trans (heap_alloc_new w _)
  have hwa : Below w.heap.size w wa := ((Below.refl _ _).alloc (Nat.le_refl _) _).trans (hba.mono (by simp))
  have hsz : w.heap.size < wa.heap.size := by have := hba.size; simp at this; omega
  have hrda := hrd.below hwa
  clear hba
  go_wp2_with (at_builtin; go_must (refine app2 rfl (.tmp 14) (.tmp 15) rfl (w.heap.size + 1) (.slice (some ⟨wa.heap.size, 0, none⟩) 0 0) _ [] l rfl rfl (Own2.empty (heap_alloc_new wa _) (by omega)) (hrda.below ((Below.refl _ _).alloc (Nat.le_refl _) _)) LEN.out (by simp; omega) ?_); intro v1 wb ho1 hg1)
  have ho1' : Own2 wb (w.heap.size + 1) v1 l := ho1
  obtain ⟨hwb, hbxb, hszb⟩ := step_keep (base := w.heap.size) hwa (Nat.le_refl _) hsz (fun k hk => by have : wa.heap.size = k := Option.some.inj hk; omega) hg1 hbx
  clear hg1
  go_wp2_with fail
  refine (overlap_any v1 l wb ho1'.rd HFIT.out).mono ?_
  rintro e wc ⟨rfl, hbc⟩
  have hwwc : Below w.heap.size w wc := hwb.trans (hbc.mono hwb.size)
  have hbxwc := (hbc.block _ (by omega)).trans hbxb
  have hrdwc := hrd.below hwwc
  have hszwc : w.heap.size < wc.heap.size := by have := hbc.size; omega
  clear hbxb hwb hbx hwa hrda ho1 ho1' hbc hszb hsz
  have hE1c := hid (heap_alloc_new wc (.cells #[] 24))
  have hE2c := hid ((Below.heap_alloc (wc.alloc (.cells #[] 24)) (.cells #[.int .u32 (x1 : Int), .int .u32 (x2 : Int)] 24) wc.heap.size (by simp)).trans hE1c.out)
  have hE3c := hid (show ((wc.alloc (.cells #[.int .u32 (x1 : Int), .int .u32 (x2 : Int)] 24)).alloc (.cells #[] 24)).heap[wc.heap.size + 1]? = some (.cells #[] 24 (0, 0)) from by have := heap_alloc_new (wc.alloc (.cells #[.int .u32 (x1 : Int), .int .u32 (x2 : Int)] 24)) (.cells #[] 24); simpa using this)
  have hX2c := hid (show ((wc.alloc (.cells #[] 24)).alloc (.cells #[.int .u32 (x1 : Int), .int .u32 (x2 : Int)] 24)).heap[wc.heap.size + 1]? = some (.cells #[.int .u32 (x1 : Int), .int .u32 (x2 : Int)] 24 (0, 0)) from by have := heap_alloc_new (wc.alloc (.cells #[] 24)) (.cells #[.int .u32 (x1 : Int), .int .u32 (x2 : Int)] 24); simpa using this)
  have hX3c := hid ((Below.heap_alloc (wc.alloc (.cells #[.int .u32 (x1 : Int), .int .u32 (x2 : Int)] 24)) (.cells #[] 24) wc.heap.size (by simp)).trans (heap_alloc_new wc (.cells #[.int .u32 (x1 : Int), .int .u32 (x2 : Int)] 24)))
  have RBEc := hid (hrdwc.below ((Below.refl wc.heap.size wc).alloc (Nat.le_refl _) (.cells #[] 24)))
  have RBXc := hid (hrdwc.below ((Below.refl wc.heap.size wc).alloc (Nat.le_refl _) (.cells #[.int .u32 (x1 : Int), .int .u32 (x2 : Int)] 24)))
  have RBEXc := hid (hrdwc.below (((Below.refl wc.heap.size wc).alloc (Nat.le_refl _) (.cells #[] 24)).alloc (by simp) (.cells #[.int .u32 (x1 : Int), .int .u32 (x2 : Int)] 24)))
  have RBXEc := hid (hrdwc.below (((Below.refl wc.heap.size wc).alloc (Nat.le_refl _) (.cells #[.int .u32 (x1 : Int), .int .u32 (x2 : Int)] 24)).alloc (by simp) (.cells #[] 24)))
  have LTc := hid hszwc
  have BWc := hid (show w.heap.size + 1 ≤ wc.heap.size from hszwc)
  have HBXc := hid hbxwc
  have HRDc := hid hrdwc
  have hx0c : wc.cell? ⟨w.heap.size, 0, none⟩ = some (.int .u32 (x1 : Int)) := by rw [cell_of_row _ _ _ _ _ _ hbxwc]; rfl
  have hx1c : wc.cell? ⟨w.heap.size, 1, none⟩ = some (.int .u32 (x2 : Int)) := by rw [cell_of_row _ _ _ _ _ _ hbxwc]; rfl
  have ha0c := acell (o := (.cells #[] 24)) hszwc hx0c
  have ha1c := acell (o := (.cells #[] 24)) hszwc hx1c
  have hb0c := acell (o := (.cells #[.int .u32 (x1 : Int), .int .u32 (x2 : Int)] 24)) hszwc hx0c
  have hb1c := acell (o := (.cells #[.int .u32 (x1 : Int), .int .u32 (x2 : Int)] 24)) hszwc hx1c
  have hc0c := acell (o := (.cells #[.int .u32 (x1 : Int), .int .u32 (x2 : Int)] 24)) (asize (o := (.cells #[] 24)) hszwc) ha0c
  have hc1c := acell (o := (.cells #[.int .u32 (x1 : Int), .int .u32 (x2 : Int)] 24)) (asize (o := (.cells #[] 24)) hszwc) ha1c
  have hd0c := acell (o := (.cells #[] 24)) (asize (o := (.cells #[.int .u32 (x1 : Int), .int .u32 (x2 : Int)] 24)) hszwc) hb0c
  have hd1c := acell (o := (.cells #[] 24)) (asize (o := (.cells #[.int .u32 (x1 : Int), .int .u32 (x2 : Int)] 24)) hszwc) hb1c
  clear hbxwc hrdwc
  go_wp2_with fail
  (first | (go_region_held3 (fun w' => w'.cell? ⟨w.heap.size, 0, none⟩ = some (.int .u32 (x1 : Int)) ∧ w'.cell? ⟨w.heap.size, 1, none⟩ = some (.int .u32 (x2 : Int)))
    (first | (with_reducible refine ⟨?_, ?_⟩ <;> assumption) | go_keep | fail)
    (first
      | (refine step_app2 ?_ (.tmp 18) (.tmp 19) rfl (w.heap.size + 1) (.slice (some ⟨wc.heap.size, 0, none⟩) 0 0) (.slice a0 K cap0) [] l rfl rfl (Own2.empty hE1c.out (by have := LTc.out; omega)) RBEc.out LEN.out (by have := LTc.out; simp <;> omega) ?_; simp [Region.wanted]; intro v2 wd ho2 hg2
         obtain ⟨hb2, hbx2, hs2⟩ := step_keep (base := w.heap.size) (Below.refl _ wc) (Nat.le_of_lt LTc.out) LTc.out (fun k hk => by have : wc.heap.size = k := Option.some.inj hk; have := LTc.out; omega) (undrew hg2) HBXc.out
         have hx0c2 : wd.cell? ⟨w.heap.size, 0, none⟩ = some (.int .u32 (x1 : Int)) := by rw [cell_of_row _ _ _ _ _ _ hbx2]; rfl
         have hx1c2 : wd.cell? ⟨w.heap.size, 1, none⟩ = some (.int .u32 (x2 : Int)) := by rw [cell_of_row _ _ _ _ _ _ hbx2]; rfl
         have HO3 := hid (show Own2 (wd.alloc (.cells #[.int .u32 (x1 : Int), .int .u32 (x2 : Int)] 24)) (w.heap.size + 1) v2 l from ho2.below ((Below.refl _ _).alloc (Nat.le_refl _) _))
         have he0c := acell (o := (.cells #[.int .u32 (x1 : Int), .int .u32 (x2 : Int)] 24)) (show w.heap.size < wd.heap.size by omega) hx0c2
         have he1c := acell (o := (.cells #[.int .u32 (x1 : Int), .int .u32 (x2 : Int)] 24)) (show w.heap.size < wd.heap.size by omega) hx1c2
         have HY := hid (heap_alloc_new wd (.cells #[.int .u32 (x1 : Int), .int .u32 (x2 : Int)] 24))
         have HBX2 := hid hbx2
         clear ho2 hbx2 hg2)
      | (refine step_app2 ?_ (.tmp 18) (.tmp 19) rfl (w.heap.size + 1) (.slice (some ⟨wc.heap.size, 0, none⟩) 0 0) (.slice a0 K cap0) [] l rfl rfl (Own2.empty hE2c.out (by have := LTc.out; omega)) RBEXc.out LEN.out (by have := LTc.out; simp <;> omega) ?_; simp [Region.wanted]; intro v2 wd ho2 hg2
         obtain ⟨hb2, hbx2, hs2⟩ := step_keep (base := w.heap.size) (wd := wc.alloc (.cells #[] 24)) (o := (.cells #[.int .u32 (x1 : Int), .int .u32 (x2 : Int)] 24)) ((Below.refl w.heap.size wc).alloc (Nat.le_of_lt LTc.out) _) (Nat.le_of_lt LTc.out) (by have := LTc.out; simp <;> omega) (fun k hk => by have : wc.heap.size = k := Option.some.inj hk; have := LTc.out; omega) (undrew hg2) ((Below.heap_alloc _ _ _ LTc.out).trans HBXc.out)
         have hx0c2 : wd.cell? ⟨w.heap.size, 0, none⟩ = some (.int .u32 (x1 : Int)) := by rw [cell_of_row _ _ _ _ _ _ hbx2]; rfl
         have hx1c2 : wd.cell? ⟨w.heap.size, 1, none⟩ = some (.int .u32 (x2 : Int)) := by rw [cell_of_row _ _ _ _ _ _ hbx2]; rfl
         have HX2 := hid (((undrew hg2).block (wc.heap.size + 1) (by simp <;> omega) (fun e => by have : wc.heap.size = wc.heap.size + 1 := Option.some.inj e.symm; omega)).trans hX2c.out)
         have HO2 := hid (show Own2 wd (w.heap.size + 1) v2 l from ho2)
         have HBX2 := hid hbx2
         clear ho2 hbx2 hg2)
      | (refine step_app2 ?_ (.tmp 18) (.tmp 19) rfl (w.heap.size + 1) (.slice (some ⟨wc.heap.size + 1, 0, none⟩) 0 0) (.slice a0 K cap0) [] l rfl rfl (Own2.empty hE3c.out (by have := LTc.out; omega)) RBXEc.out LEN.out (by have := LTc.out; simp <;> omega) ?_; simp [Region.wanted]; intro v2 wd ho2 hg2
         obtain ⟨hb2, hbx2, hs2⟩ := step_keep (base := w.heap.size) (wd := wc.alloc (.cells #[.int .u32 (x1 : Int), .int .u32 (x2 : Int)] 24)) (o := (.cells #[] 24)) ((Below.refl w.heap.size wc).alloc (Nat.le_of_lt LTc.out) _) (Nat.le_of_lt LTc.out) (by have := LTc.out; simp <;> omega) (fun k hk => by have : wc.heap.size + 1 = k := Option.some.inj hk; have := LTc.out; omega) (undrew hg2) ((Below.heap_alloc _ _ _ LTc.out).trans HBXc.out)
         have hx0c2 : wd.cell? ⟨w.heap.size, 0, none⟩ = some (.int .u32 (x1 : Int)) := by rw [cell_of_row _ _ _ _ _ _ hbx2]; rfl
         have hx1c2 : wd.cell? ⟨w.heap.size, 1, none⟩ = some (.int .u32 (x2 : Int)) := by rw [cell_of_row _ _ _ _ _ _ hbx2]; rfl
         have HX2 := hid (((undrew hg2).block (wc.heap.size) (by simp <;> omega) (fun e => by have : wc.heap.size + 1 = wc.heap.size := Option.some.inj e.symm; omega)).trans hX3c.out)
         have HO2 := hid (show Own2 wd (w.heap.size + 1) v2 l from ho2)
         have HBX2 := hid hbx2
         clear ho2 hbx2 hg2)
      | (refine step_app2 ?_ (.tmp 20) (.tmp 22) rfl (w.heap.size + 1) v2 (.slice (some ⟨wd.heap.size, 0, none⟩) 1 1) l [(x1, x2)] rfl rfl HO3.out (Rd2.one HY.out) LEN2.out (by have := LTc.out; have := hb2.size; simp <;> omega) ?_; simp [Region.wanted]; intro v3 we ho4 hg4
         obtain ⟨hb4, hbx4, hs4⟩ := step_keep (base := w.heap.size) hb2 (Nat.le_of_lt LTc.out) (Nat.lt_of_lt_of_le LTc.out hb2.size) (fun k hk => (HO3.out.lt k hk).1) hg4 HBX2.out
         have hx0c4 : we.cell? ⟨w.heap.size, 0, none⟩ = some (.int .u32 (x1 : Int)) := by rw [cell_of_row _ _ _ _ _ _ hbx4]; rfl
         have hx1c4 : we.cell? ⟨w.heap.size, 1, none⟩ = some (.int .u32 (x2 : Int)) := by rw [cell_of_row _ _ _ _ _ _ hbx4]; rfl
         have HBX4 := hid hbx4
         clear hg4 hbx4)
      | (refine step_app2 ?_ (.tmp 20) (.tmp 22) rfl (w.heap.size + 1) v2 (.slice (some ⟨wc.heap.size + 1, 0, none⟩) 1 1) l [(x1, x2)] rfl rfl HO2.out (Rd2.one HX2.out) LEN2.out (by have := LTc.out; have := hb2.size; first | omega | (simp <;> omega)) ?_; simp [Region.wanted]; intro v3 we ho4 hg4
         obtain ⟨hb4, hbx4, hs4⟩ := step_keep0 (base := w.heap.size) hb2 (Nat.lt_of_lt_of_le LTc.out hb2.size) (fun k hk => (HO2.out.lt k hk).1) hg4 HBX2.out
         have hx0c4 : we.cell? ⟨w.heap.size, 0, none⟩ = some (.int .u32 (x1 : Int)) := by rw [cell_of_row _ _ _ _ _ _ hbx4]; rfl
         have hx1c4 : we.cell? ⟨w.heap.size, 1, none⟩ = some (.int .u32 (x2 : Int)) := by rw [cell_of_row _ _ _ _ _ _ hbx4]; rfl
         have HBX4 := hid hbx4
         clear hg4 hbx4)
      | (refine step_app2 ?_ (.tmp 20) (.tmp 22) rfl (w.heap.size + 1) v2 (.slice (some ⟨wc.heap.size, 0, none⟩) 1 1) l [(x1, x2)] rfl rfl HO2.out (Rd2.one HX2.out) LEN2.out (by have := LTc.out; have := hb2.size; first | omega | (simp <;> omega)) ?_; simp [Region.wanted]; intro v3 we ho4 hg4
         obtain ⟨hb4, hbx4, hs4⟩ := step_keep0 (base := w.heap.size) hb2 (Nat.lt_of_lt_of_le LTc.out hb2.size) (fun k hk => (HO2.out.lt k hk).1) hg4 HBX2.out
         have hx0c4 : we.cell? ⟨w.heap.size, 0, none⟩ = some (.int .u32 (x1 : Int)) := by rw [cell_of_row _ _ _ _ _ _ hbx4]; rfl
         have hx1c4 : we.cell? ⟨w.heap.size, 1, none⟩ = some (.int .u32 (x2 : Int)) := by rw [cell_of_row _ _ _ _ _ _ hbx4]; rfl
         have HBX4 := hid hbx4
         clear hg4 hbx4)
      | (go_at_call 6; (with_reducible refine (overlap_any v3 (l ++ [(x1, x2)]) _ ho4.rd FIT2.out).mono ?_); rintro e wf ⟨rfl, hb5⟩
         have hb6 : Below w.heap.size wc wf := hb4.trans (hb5.mono (by have := LTc.out; have := hb4.size; omega))
         have hbx5 := (hb5.block w.heap.size (by have := LTc.out; have := hb4.size; omega)).trans HBX4.out
         have hx0c5 : wf.cell? ⟨w.heap.size, 0, none⟩ = some (.int .u32 (x1 : Int)) := by rw [cell_of_row _ _ _ _ _ _ hbx5]; rfl
         have hx1c5 : wf.cell? ⟨w.heap.size, 1, none⟩ = some (.int .u32 (x2 : Int)) := by rw [cell_of_row _ _ _ _ _ _ hbx5]; rfl
         have HBX5 := hid hbx5
         clear hbx5 hb5 ho4)
      | fail)) | fail)
  all_goals
    have HWF := hid (hwwc.trans (hb6.mono (Nat.le_refl _)))
    have hrdf0 := hrd.below HWF.out
    have HRDF := hid (show Rd2 wf.drew (.slice a0 K cap0) l from hrdf0)
    clear hrdf0
    have HSF := hid (show w.heap.size < wf.heap.size from Nat.lt_of_lt_of_le hszwc hb6.size)
    have hy0 : wf.cell? ⟨w.heap.size, 0, none⟩ = some (.int .u32 (x1 : Int)) := by rw [cell_of_row _ _ _ _ _ _ HBX5.out]; rfl
    have hy1 : wf.cell? ⟨w.heap.size, 1, none⟩ = some (.int .u32 (x2 : Int)) := by rw [cell_of_row _ _ _ _ _ _ HBX5.out]; rfl
    have hyd0 : wf.drew.cell? ⟨w.heap.size, 0, none⟩ = some (.int .u32 (x1 : Int)) := hy0
    have hyd1 : wf.drew.cell? ⟨w.heap.size, 1, none⟩ = some (.int .u32 (x2 : Int)) := hy1
    clear hb6 hb4 hb2
    go_wp2_with fail
    (first | (go_region_held3 (fun w' => w'.cell? ⟨w.heap.size, 0, none⟩ = some (.int .u32 (x1 : Int)) ∧ w'.cell? ⟨w.heap.size, 1, none⟩ = some (.int .u32 (x2 : Int)))
      (first | (with_reducible refine ⟨?_, ?_⟩ <;> assumption) | go_keep | fail)
      (first
        | (go_at_call 7; (with_reducible refine (refoverlap_any (.slice a0 K cap0) l _ HRDF.out HFIT.out).mono ?_); rintro e wg ⟨rfl, hbg0⟩
           have hbg : Below wf.heap.size wf wg := ⟨hbg0.os, hbg0.tape, hbg0.output, hbg0.size, hbg0.block⟩
           clear hbg0
           have hwwg : Below w.heap.size w wg := HWF.out.trans (hbg.mono (by have := HSF.out; omega))
           have hbxwg := (hbg.block w.heap.size HSF.out).trans HBX5.out
           have hrdwg := hrd.below hwwg
           have hszwg : w.heap.size < wg.heap.size := by have := hbg.size; have := HSF.out; omega
           have hE1g := hid (heap_alloc_new wg (.cells #[] 24))
           have hE2g := hid ((Below.heap_alloc (wg.alloc (.cells #[] 24)) (.cells #[.int .u32 (x1 : Int), .int .u32 (x2 : Int)] 24) wg.heap.size (by simp)).trans hE1g.out)
           have hE3g := hid (show ((wg.alloc (.cells #[.int .u32 (x1 : Int), .int .u32 (x2 : Int)] 24)).alloc (.cells #[] 24)).heap[wg.heap.size + 1]? = some (.cells #[] 24 (0, 0)) from by have := heap_alloc_new (wg.alloc (.cells #[.int .u32 (x1 : Int), .int .u32 (x2 : Int)] 24)) (.cells #[] 24); simpa using this)
           have hX2g := hid (show ((wg.alloc (.cells #[] 24)).alloc (.cells #[.int .u32 (x1 : Int), .int .u32 (x2 : Int)] 24)).heap[wg.heap.size + 1]? = some (.cells #[.int .u32 (x1 : Int), .int .u32 (x2 : Int)] 24 (0, 0)) from by have := heap_alloc_new (wg.alloc (.cells #[] 24)) (.cells #[.int .u32 (x1 : Int), .int .u32 (x2 : Int)] 24); simpa using this)
           have hX3g := hid ((Below.heap_alloc (wg.alloc (.cells #[.int .u32 (x1 : Int), .int .u32 (x2 : Int)] 24)) (.cells #[] 24) wg.heap.size (by simp)).trans (heap_alloc_new wg (.cells #[.int .u32 (x1 : Int), .int .u32 (x2 : Int)] 24)))
           have RBEg := hid (hrdwg.below ((Below.refl wg.heap.size wg).alloc (Nat.le_refl _) (.cells #[] 24)))
           have RBXg := hid (hrdwg.below ((Below.refl wg.heap.size wg).alloc (Nat.le_refl _) (.cells #[.int .u32 (x1 : Int), .int .u32 (x2 : Int)] 24)))
           have RBEXg := hid (hrdwg.below (((Below.refl wg.heap.size wg).alloc (Nat.le_refl _) (.cells #[] 24)).alloc (by simp) (.cells #[.int .u32 (x1 : Int), .int .u32 (x2 : Int)] 24)))
           have RBXEg := hid (hrdwg.below (((Below.refl wg.heap.size wg).alloc (Nat.le_refl _) (.cells #[.int .u32 (x1 : Int), .int .u32 (x2 : Int)] 24)).alloc (by simp) (.cells #[] 24)))
           have LTg := hid hszwg
           have BWg := hid (show w.heap.size + 1 ≤ wg.heap.size from hszwg)
           have HBXg := hid hbxwg
           have HRDg := hid hrdwg
           have hx0g : wg.cell? ⟨w.heap.size, 0, none⟩ = some (.int .u32 (x1 : Int)) := by rw [cell_of_row _ _ _ _ _ _ hbxwg]; rfl
           have hx1g : wg.cell? ⟨w.heap.size, 1, none⟩ = some (.int .u32 (x2 : Int)) := by rw [cell_of_row _ _ _ _ _ _ hbxwg]; rfl
           have ha0g := acell (o := (.cells #[] 24)) hszwg hx0g
           have ha1g := acell (o := (.cells #[] 24)) hszwg hx1g
           have hb0g := acell (o := (.cells #[.int .u32 (x1 : Int), .int .u32 (x2 : Int)] 24)) hszwg hx0g
           have hb1g := acell (o := (.cells #[.int .u32 (x1 : Int), .int .u32 (x2 : Int)] 24)) hszwg hx1g
           have hc0g := acell (o := (.cells #[.int .u32 (x1 : Int), .int .u32 (x2 : Int)] 24)) (asize (o := (.cells #[] 24)) hszwg) ha0g
           have hc1g := acell (o := (.cells #[.int .u32 (x1 : Int), .int .u32 (x2 : Int)] 24)) (asize (o := (.cells #[] 24)) hszwg) ha1g
           have hd0g := acell (o := (.cells #[] 24)) (asize (o := (.cells #[.int .u32 (x1 : Int), .int .u32 (x2 : Int)] 24)) hszwg) hb0g
           have hd1g := acell (o := (.cells #[] 24)) (asize (o := (.cells #[.int .u32 (x1 : Int), .int .u32 (x2 : Int)] 24)) hszwg) hb1g
           clear hbxwg hrdwg)
        | (refine step_app2 ?_ (.tmp 31) (.tmp 32) rfl (w.heap.size + 1) (.slice (some ⟨wg.heap.size, 0, none⟩) 0 0) (.slice a0 K cap0) [] l rfl rfl (Own2.empty hE1g.out (by have := LTg.out; omega)) RBEg.out LEN.out (by have := LTg.out; simp <;> omega) ?_; rfl; intro v2 wd ho2 hg2
           obtain ⟨hb2, hbx2, hs2⟩ := step_keep (base := w.heap.size) (Below.refl _ wg) (Nat.le_of_lt LTg.out) LTg.out (fun k hk => by have : wg.heap.size = k := Option.some.inj hk; have := LTg.out; omega) (hg2) HBXg.out
           have hx0g2 : wd.cell? ⟨w.heap.size, 0, none⟩ = some (.int .u32 (x1 : Int)) := by rw [cell_of_row _ _ _ _ _ _ hbx2]; rfl
           have hx1g2 : wd.cell? ⟨w.heap.size, 1, none⟩ = some (.int .u32 (x2 : Int)) := by rw [cell_of_row _ _ _ _ _ _ hbx2]; rfl
           have HO3 := hid (show Own2 (wd.alloc (.cells #[.int .u32 (x1 : Int), .int .u32 (x2 : Int)] 24)) (w.heap.size + 1) v2 l from ho2.below ((Below.refl _ _).alloc (Nat.le_refl _) _))
           have he0g := acell (o := (.cells #[.int .u32 (x1 : Int), .int .u32 (x2 : Int)] 24)) (show w.heap.size < wd.heap.size by omega) hx0g2
           have he1g := acell (o := (.cells #[.int .u32 (x1 : Int), .int .u32 (x2 : Int)] 24)) (show w.heap.size < wd.heap.size by omega) hx1g2
           have HY := hid (heap_alloc_new wd (.cells #[.int .u32 (x1 : Int), .int .u32 (x2 : Int)] 24))
           have HBX2 := hid hbx2
           clear ho2 hbx2 hg2)
        | (refine step_app2 ?_ (.tmp 31) (.tmp 32) rfl (w.heap.size + 1) (.slice (some ⟨wg.heap.size, 0, none⟩) 0 0) (.slice a0 K cap0) [] l rfl rfl (Own2.empty hE2g.out (by have := LTg.out; omega)) RBEXg.out LEN.out (by have := LTg.out; simp <;> omega) ?_; rfl; intro v2 wd ho2 hg2
           obtain ⟨hb2, hbx2, hs2⟩ := step_keep (base := w.heap.size) (wd := wg.alloc (.cells #[] 24)) (o := (.cells #[.int .u32 (x1 : Int), .int .u32 (x2 : Int)] 24)) ((Below.refl w.heap.size wg).alloc (Nat.le_of_lt LTg.out) _) (Nat.le_of_lt LTg.out) (by have := LTg.out; simp <;> omega) (fun k hk => by have : wg.heap.size = k := Option.some.inj hk; have := LTg.out; omega) (hg2) ((Below.heap_alloc _ _ _ LTg.out).trans HBXg.out)
           have hx0g2 : wd.cell? ⟨w.heap.size, 0, none⟩ = some (.int .u32 (x1 : Int)) := by rw [cell_of_row _ _ _ _ _ _ hbx2]; rfl
           have hx1g2 : wd.cell? ⟨w.heap.size, 1, none⟩ = some (.int .u32 (x2 : Int)) := by rw [cell_of_row _ _ _ _ _ _ hbx2]; rfl
           have HX2 := hid (((hg2).block (wg.heap.size + 1) (by simp <;> omega) (fun e => by have : wg.heap.size = wg.heap.size + 1 := Option.some.inj e.symm; omega)).trans hX2g.out)
           have HO2 := hid (show Own2 wd (w.heap.size + 1) v2 l from ho2)
           have HBX2 := hid hbx2
           clear ho2 hbx2 hg2)
        | (refine step_app2 ?_ (.tmp 31) (.tmp 32) rfl (w.heap.size + 1) (.slice (some ⟨wg.heap.size + 1, 0, none⟩) 0 0) (.slice a0 K cap0) [] l rfl rfl (Own2.empty hE3g.out (by have := LTg.out; omega)) RBXEg.out LEN.out (by have := LTg.out; simp <;> omega) ?_; rfl; intro v2 wd ho2 hg2
           obtain ⟨hb2, hbx2, hs2⟩ := step_keep (base := w.heap.size) (wd := wg.alloc (.cells #[.int .u32 (x1 : Int), .int .u32 (x2 : Int)] 24)) (o := (.cells #[] 24)) ((Below.refl w.heap.size wg).alloc (Nat.le_of_lt LTg.out) _) (Nat.le_of_lt LTg.out) (by have := LTg.out; simp <;> omega) (fun k hk => by have : wg.heap.size + 1 = k := Option.some.inj hk; have := LTg.out; omega) (hg2) ((Below.heap_alloc _ _ _ LTg.out).trans HBXg.out)
           have hx0g2 : wd.cell? ⟨w.heap.size, 0, none⟩ = some (.int .u32 (x1 : Int)) := by rw [cell_of_row _ _ _ _ _ _ hbx2]; rfl
           have hx1g2 : wd.cell? ⟨w.heap.size, 1, none⟩ = some (.int .u32 (x2 : Int)) := by rw [cell_of_row _ _ _ _ _ _ hbx2]; rfl
           have HX2 := hid (((hg2).block (wg.heap.size) (by simp <;> omega) (fun e => by have : wg.heap.size + 1 = wg.heap.size := Option.some.inj e.symm; omega)).trans hX3g.out)
           have HO2 := hid (show Own2 wd (w.heap.size + 1) v2 l from ho2)
           have HBX2 := hid hbx2
           clear ho2 hbx2 hg2)
        | (refine step_app2 ?_ (.tmp 33) (.tmp 35) rfl (w.heap.size + 1) v2 (.slice (some ⟨wd.heap.size, 0, none⟩) 1 1) l [(x1, x2)] rfl rfl HO3.out (Rd2.one HY.out) LEN2.out (by have := LTg.out; have := hb2.size; simp <;> omega) ?_; rfl; intro v3 we ho4 hg4
           obtain ⟨hb4, hbx4, hs4⟩ := step_keep (base := w.heap.size) hb2 (Nat.le_of_lt LTg.out) (Nat.lt_of_lt_of_le LTg.out hb2.size) (fun k hk => (HO3.out.lt k hk).1) hg4 HBX2.out
           have hx0g4 : we.cell? ⟨w.heap.size, 0, none⟩ = some (.int .u32 (x1 : Int)) := by rw [cell_of_row _ _ _ _ _ _ hbx4]; rfl
           have hx1g4 : we.cell? ⟨w.heap.size, 1, none⟩ = some (.int .u32 (x2 : Int)) := by rw [cell_of_row _ _ _ _ _ _ hbx4]; rfl
           have HBX4 := hid hbx4
           clear hg4 hbx4)
        | (refine step_app2 ?_ (.tmp 33) (.tmp 35) rfl (w.heap.size + 1) v2 (.slice (some ⟨wg.heap.size + 1, 0, none⟩) 1 1) l [(x1, x2)] rfl rfl HO2.out (Rd2.one HX2.out) LEN2.out (by have := LTg.out; have := hb2.size; first | omega | (simp <;> omega)) ?_; rfl; intro v3 we ho4 hg4
           obtain ⟨hb4, hbx4, hs4⟩ := step_keep0 (base := w.heap.size) hb2 (Nat.lt_of_lt_of_le LTg.out hb2.size) (fun k hk => (HO2.out.lt k hk).1) hg4 HBX2.out
           have hx0g4 : we.cell? ⟨w.heap.size, 0, none⟩ = some (.int .u32 (x1 : Int)) := by rw [cell_of_row _ _ _ _ _ _ hbx4]; rfl
           have hx1g4 : we.cell? ⟨w.heap.size, 1, none⟩ = some (.int .u32 (x2 : Int)) := by rw [cell_of_row _ _ _ _ _ _ hbx4]; rfl
           have HBX4 := hid hbx4
           clear hg4 hbx4)
        | (refine step_app2 ?_ (.tmp 33) (.tmp 35) rfl (w.heap.size + 1) v2 (.slice (some ⟨wg.heap.size, 0, none⟩) 1 1) l [(x1, x2)] rfl rfl HO2.out (Rd2.one HX2.out) LEN2.out (by have := LTg.out; have := hb2.size; first | omega | (simp <;> omega)) ?_; rfl; intro v3 we ho4 hg4
           obtain ⟨hb4, hbx4, hs4⟩ := step_keep0 (base := w.heap.size) hb2 (Nat.lt_of_lt_of_le LTg.out hb2.size) (fun k hk => (HO2.out.lt k hk).1) hg4 HBX2.out
           have hx0g4 : we.cell? ⟨w.heap.size, 0, none⟩ = some (.int .u32 (x1 : Int)) := by rw [cell_of_row _ _ _ _ _ _ hbx4]; rfl
           have hx1g4 : we.cell? ⟨w.heap.size, 1, none⟩ = some (.int .u32 (x2 : Int)) := by rw [cell_of_row _ _ _ _ _ _ hbx4]; rfl
           have HBX4 := hid hbx4
           clear hg4 hbx4)
        | (go_at_call 7; (with_reducible refine (refoverlap_any v3 (l ++ [(x1, x2)]) _ ho4.rd FIT2.out).mono ?_); rintro e wf ⟨rfl, hb5⟩
           have hb6 : Below w.heap.size wg wf := hb4.trans (hb5.mono (by have := LTg.out; have := hb4.size; omega))
           have hbx5 := (hb5.block w.heap.size (by have := LTg.out; have := hb4.size; omega)).trans HBX4.out
           have hx0g5 : wf.cell? ⟨w.heap.size, 0, none⟩ = some (.int .u32 (x1 : Int)) := by rw [cell_of_row _ _ _ _ _ _ hbx5]; rfl
           have hx1g5 : wf.cell? ⟨w.heap.size, 1, none⟩ = some (.int .u32 (x2 : Int)) := by rw [cell_of_row _ _ _ _ _ _ hbx5]; rfl
           have HBX5 := hid hbx5
           clear hbx5 hb5 ho4)
        | fail)) | fail)
  all_goals
    go_wp2_with fail
    go_ret
    exact ⟨rfl, hwwg.trans (hb6.mono (Nat.le_refl _))⟩

set_option maxRecDepth 100000 in
set_option maxHeartbeats 8000000 in
theorem ov_many (a0 : Option Addr) (len0 cap0 : Nat) (x1 x2 : Nat) (l : List (Nat × Nat)) (w : World) (hx1 : x1 < 4294967296) (hx2 : x2 < 4294967296) (hcm : cap0 ≤ 9223372036854775807) (hrd : Rd2 w (.slice a0 100 cap0) l) (HFIT : Hid (Cap.fits l)) (HL : Hid (l.length = 100)) (hn : 100 < len0) (hK2 : len0 ≤ cap0) :
    Calls Try.prog 3 #[.slice a0 len0 cap0, .agg #[.int .u32 (x1 : Int), .int .u32 (x2 : Int)]] w fun e w' => e = .returned (.bool true) ∧ Below w.heap.size w w' := by
  have LEN := hid (show ([] : List (Nat × Nat)).length + l.length ≤ 1000000 by rw [HL.out]; simp <;> omega)
  have LEN2 := hid (show l.length + [(x1, x2)].length ≤ 1000000 by rw [HL.out]; simp <;> omega)
  have FIT2 := hid (Cap.fits_snoc l (x1, x2) HFIT.out hx1 hx2)
  have hn1 : (100 : Int) < (len0 : Int) := by omega
  have hq : ((100 : Int) == 0) = false := rfl
  have hle : (Cap.ov (l ++ [(x1, x2)]) : Int) ≤ (Cap.ov l : Int) := by
    have := Cap.ov_snoc l (x1, x2) (by rintro rfl; have := HL.out; simp at this; try omega)
    omega
  go_enter Try.func3, Try.ntmps3
  go_wp2_with fail
  refine (awake3_any _).mono ?_
  rintro e wa ⟨rfl, hba⟩
  have hbx : wa.heap[w.heap.size]? = some (.cells #[.int .u32 (x1 : Int), .int .u32 (x2 : Int)] 24 (0, 0)) := (hba.block _ (by simp)).trans (heap_alloc_new w _)
  have hwa : Below w.heap.size w wa := ((Below.refl _ _).alloc (Nat.le_refl _) _).trans (hba.mono (by simp))
  have hsz : w.heap.size < wa.heap.size := by have := hba.size; simp at this; omega
  have hrda := hrd.below hwa
  clear hba
  go_wp2_with (at_builtin; go_must (refine app2 rfl (.tmp 14) (.tmp 15) rfl (w.heap.size + 1) (.slice (some ⟨wa.heap.size, 0, none⟩) 0 0) _ [] l rfl rfl (Own2.empty (heap_alloc_new wa _) (by omega)) (hrda.below ((Below.refl _ _).alloc (Nat.le_refl _) _)) LEN.out (by simp; omega) ?_); intro v1 wb ho1 hg1)
  have ho1' : Own2 wb (w.heap.size + 1) v1 l := ho1
  obtain ⟨hwb, hbxb, hszb⟩ := step_keep (base := w.heap.size) hwa (Nat.le_refl _) hsz (fun k hk => by have : wa.heap.size = k := Option.some.inj hk; omega) hg1 hbx
  clear hg1
  go_wp2_with fail
  refine (overlap_any v1 l wb ho1'.rd HFIT.out).mono ?_
  rintro e wc ⟨rfl, hbc⟩
  have hwwc : Below w.heap.size w wc := hwb.trans (hbc.mono hwb.size)
  have hbxwc := (hbc.block _ (by omega)).trans hbxb
  have hrdwc := hrd.below hwwc
  have hszwc : w.heap.size < wc.heap.size := by have := hbc.size; omega
  clear hbxb hwb hbx hwa hrda ho1 ho1' hbc hszb hsz
  have hE1c := hid (heap_alloc_new wc (.cells #[] 24))
  have hE2c := hid ((Below.heap_alloc (wc.alloc (.cells #[] 24)) (.cells #[.int .u32 (x1 : Int), .int .u32 (x2 : Int)] 24) wc.heap.size (by simp)).trans hE1c.out)
  have hE3c := hid (show ((wc.alloc (.cells #[.int .u32 (x1 : Int), .int .u32 (x2 : Int)] 24)).alloc (.cells #[] 24)).heap[wc.heap.size + 1]? = some (.cells #[] 24 (0, 0)) from by have := heap_alloc_new (wc.alloc (.cells #[.int .u32 (x1 : Int), .int .u32 (x2 : Int)] 24)) (.cells #[] 24); simpa using this)
  have hX2c := hid (show ((wc.alloc (.cells #[] 24)).alloc (.cells #[.int .u32 (x1 : Int), .int .u32 (x2 : Int)] 24)).heap[wc.heap.size + 1]? = some (.cells #[.int .u32 (x1 : Int), .int .u32 (x2 : Int)] 24 (0, 0)) from by have := heap_alloc_new (wc.alloc (.cells #[] 24)) (.cells #[.int .u32 (x1 : Int), .int .u32 (x2 : Int)] 24); simpa using this)
  have hX3c := hid ((Below.heap_alloc (wc.alloc (.cells #[.int .u32 (x1 : Int), .int .u32 (x2 : Int)] 24)) (.cells #[] 24) wc.heap.size (by simp)).trans (heap_alloc_new wc (.cells #[.int .u32 (x1 : Int), .int .u32 (x2 : Int)] 24)))
  have RBEc := hid (hrdwc.below ((Below.refl wc.heap.size wc).alloc (Nat.le_refl _) (.cells #[] 24)))
  have RBXc := hid (hrdwc.below ((Below.refl wc.heap.size wc).alloc (Nat.le_refl _) (.cells #[.int .u32 (x1 : Int), .int .u32 (x2 : Int)] 24)))
  have RBEXc := hid (hrdwc.below (((Below.refl wc.heap.size wc).alloc (Nat.le_refl _) (.cells #[] 24)).alloc (by simp) (.cells #[.int .u32 (x1 : Int), .int .u32 (x2 : Int)] 24)))
  have RBXEc := hid (hrdwc.below (((Below.refl wc.heap.size wc).alloc (Nat.le_refl _) (.cells #[.int .u32 (x1 : Int), .int .u32 (x2 : Int)] 24)).alloc (by simp) (.cells #[] 24)))
  have LTc := hid hszwc
  have BWc := hid (show w.heap.size + 1 ≤ wc.heap.size from hszwc)
  have HBXc := hid hbxwc
  have HRDc := hid hrdwc
  have hx0c : wc.cell? ⟨w.heap.size, 0, none⟩ = some (.int .u32 (x1 : Int)) := by rw [cell_of_row _ _ _ _ _ _ hbxwc]; rfl
  have hx1c : wc.cell? ⟨w.heap.size, 1, none⟩ = some (.int .u32 (x2 : Int)) := by rw [cell_of_row _ _ _ _ _ _ hbxwc]; rfl
  have ha0c := acell (o := (.cells #[] 24)) hszwc hx0c
  have ha1c := acell (o := (.cells #[] 24)) hszwc hx1c
  have hb0c := acell (o := (.cells #[.int .u32 (x1 : Int), .int .u32 (x2 : Int)] 24)) hszwc hx0c
  have hb1c := acell (o := (.cells #[.int .u32 (x1 : Int), .int .u32 (x2 : Int)] 24)) hszwc hx1c
  have hc0c := acell (o := (.cells #[.int .u32 (x1 : Int), .int .u32 (x2 : Int)] 24)) (asize (o := (.cells #[] 24)) hszwc) ha0c
  have hc1c := acell (o := (.cells #[.int .u32 (x1 : Int), .int .u32 (x2 : Int)] 24)) (asize (o := (.cells #[] 24)) hszwc) ha1c
  have hd0c := acell (o := (.cells #[] 24)) (asize (o := (.cells #[.int .u32 (x1 : Int), .int .u32 (x2 : Int)] 24)) hszwc) hb0c
  have hd1c := acell (o := (.cells #[] 24)) (asize (o := (.cells #[.int .u32 (x1 : Int), .int .u32 (x2 : Int)] 24)) hszwc) hb1c
  clear hbxwc hrdwc
  go_wp2_with fail
  (first | (go_region_held3 (fun w' => w'.cell? ⟨w.heap.size, 0, none⟩ = some (.int .u32 (x1 : Int)) ∧ w'.cell? ⟨w.heap.size, 1, none⟩ = some (.int .u32 (x2 : Int)))
    (first | (with_reducible refine ⟨?_, ?_⟩ <;> assumption) | go_keep | fail)
    (first
      | (refine step_app2 ?_ (.tmp 18) (.tmp 19) rfl (w.heap.size + 1) (.slice (some ⟨wc.heap.size, 0, none⟩) 0 0) (.slice a0 100 cap0) [] l rfl rfl (Own2.empty hE1c.out (by have := LTc.out; omega)) RBEc.out LEN.out (by have := LTc.out; simp <;> omega) ?_; simp [Region.wanted]; intro v2 wd ho2 hg2
         obtain ⟨hb2, hbx2, hs2⟩ := step_keep (base := w.heap.size) (Below.refl _ wc) (Nat.le_of_lt LTc.out) LTc.out (fun k hk => by have : wc.heap.size = k := Option.some.inj hk; have := LTc.out; omega) (undrew hg2) HBXc.out
         have hx0c2 : wd.cell? ⟨w.heap.size, 0, none⟩ = some (.int .u32 (x1 : Int)) := by rw [cell_of_row _ _ _ _ _ _ hbx2]; rfl
         have hx1c2 : wd.cell? ⟨w.heap.size, 1, none⟩ = some (.int .u32 (x2 : Int)) := by rw [cell_of_row _ _ _ _ _ _ hbx2]; rfl
         have HO3 := hid (show Own2 (wd.alloc (.cells #[.int .u32 (x1 : Int), .int .u32 (x2 : Int)] 24)) (w.heap.size + 1) v2 l from ho2.below ((Below.refl _ _).alloc (Nat.le_refl _) _))
         have he0c := acell (o := (.cells #[.int .u32 (x1 : Int), .int .u32 (x2 : Int)] 24)) (show w.heap.size < wd.heap.size by omega) hx0c2
         have he1c := acell (o := (.cells #[.int .u32 (x1 : Int), .int .u32 (x2 : Int)] 24)) (show w.heap.size < wd.heap.size by omega) hx1c2
         have HY := hid (heap_alloc_new wd (.cells #[.int .u32 (x1 : Int), .int .u32 (x2 : Int)] 24))
         have HBX2 := hid hbx2
         clear ho2 hbx2 hg2)
      | (refine step_app2 ?_ (.tmp 18) (.tmp 19) rfl (w.heap.size + 1) (.slice (some ⟨wc.heap.size, 0, none⟩) 0 0) (.slice a0 100 cap0) [] l rfl rfl (Own2.empty hE2c.out (by have := LTc.out; omega)) RBEXc.out LEN.out (by have := LTc.out; simp <;> omega) ?_; simp [Region.wanted]; intro v2 wd ho2 hg2
         obtain ⟨hb2, hbx2, hs2⟩ := step_keep (base := w.heap.size) (wd := wc.alloc (.cells #[] 24)) (o := (.cells #[.int .u32 (x1 : Int), .int .u32 (x2 : Int)] 24)) ((Below.refl w.heap.size wc).alloc (Nat.le_of_lt LTc.out) _) (Nat.le_of_lt LTc.out) (by have := LTc.out; simp <;> omega) (fun k hk => by have : wc.heap.size = k := Option.some.inj hk; have := LTc.out; omega) (undrew hg2) ((Below.heap_alloc _ _ _ LTc.out).trans HBXc.out)
         have hx0c2 : wd.cell? ⟨w.heap.size, 0, none⟩ = some (.int .u32 (x1 : Int)) := by rw [cell_of_row _ _ _ _ _ _ hbx2]; rfl
         have hx1c2 : wd.cell? ⟨w.heap.size, 1, none⟩ = some (.int .u32 (x2 : Int)) := by rw [cell_of_row _ _ _ _ _ _ hbx2]; rfl
         have HX2 := hid (((undrew hg2).block (wc.heap.size + 1) (by simp <;> omega) (fun e => by have : wc.heap.size = wc.heap.size + 1 := Option.some.inj e.symm; omega)).trans hX2c.out)
         have HO2 := hid (show Own2 wd (w.heap.size + 1) v2 l from ho2)
         have HBX2 := hid hbx2
         clear ho2 hbx2 hg2)
      | (refine step_app2 ?_ (.tmp 18) (.tmp 19) rfl (w.heap.size + 1) (.slice (some ⟨wc.heap.size + 1, 0, none⟩) 0 0) (.slice a0 100 cap0) [] l rfl rfl (Own2.empty hE3c.out (by have := LTc.out; omega)) RBXEc.out LEN.out (by have := LTc.out; simp <;> omega) ?_; simp [Region.wanted]; intro v2 wd ho2 hg2
         obtain ⟨hb2, hbx2, hs2⟩ := step_keep (base := w.heap.size) (wd := wc.alloc (.cells #[.int .u32 (x1 : Int), .int .u32 (x2 : Int)] 24)) (o := (.cells #[] 24)) ((Below.refl w.heap.size wc).alloc (Nat.le_of_lt LTc.out) _) (Nat.le_of_lt LTc.out) (by have := LTc.out; simp <;> omega) (fun k hk => by have : wc.heap.size + 1 = k := Option.some.inj hk; have := LTc.out; omega) (undrew hg2) ((Below.heap_alloc _ _ _ LTc.out).trans HBXc.out)
         have hx0c2 : wd.cell? ⟨w.heap.size, 0, none⟩ = some (.int .u32 (x1 : Int)) := by rw [cell_of_row _ _ _ _ _ _ hbx2]; rfl
         have hx1c2 : wd.cell? ⟨w.heap.size, 1, none⟩ = some (.int .u32 (x2 : Int)) := by rw [cell_of_row _ _ _ _ _ _ hbx2]; rfl
         have HX2 := hid (((undrew hg2).block (wc.heap.size) (by simp <;> omega) (fun e => by have : wc.heap.size + 1 = wc.heap.size := Option.some.inj e.symm; omega)).trans hX3c.out)
         have HO2 := hid (show Own2 wd (w.heap.size + 1) v2 l from ho2)
         have HBX2 := hid hbx2
         clear ho2 hbx2 hg2)
      | (refine step_app2 ?_ (.tmp 20) (.tmp 22) rfl (w.heap.size + 1) v2 (.slice (some ⟨wd.heap.size, 0, none⟩) 1 1) l [(x1, x2)] rfl rfl HO3.out (Rd2.one HY.out) LEN2.out (by have := LTc.out; have := hb2.size; simp <;> omega) ?_; simp [Region.wanted]; intro v3 we ho4 hg4
         obtain ⟨hb4, hbx4, hs4⟩ := step_keep (base := w.heap.size) hb2 (Nat.le_of_lt LTc.out) (Nat.lt_of_lt_of_le LTc.out hb2.size) (fun k hk => (HO3.out.lt k hk).1) hg4 HBX2.out
         have hx0c4 : we.cell? ⟨w.heap.size, 0, none⟩ = some (.int .u32 (x1 : Int)) := by rw [cell_of_row _ _ _ _ _ _ hbx4]; rfl
         have hx1c4 : we.cell? ⟨w.heap.size, 1, none⟩ = some (.int .u32 (x2 : Int)) := by rw [cell_of_row _ _ _ _ _ _ hbx4]; rfl
         have HBX4 := hid hbx4
         clear hg4 hbx4)
      | (refine step_app2 ?_ (.tmp 20) (.tmp 22) rfl (w.heap.size + 1) v2 (.slice (some ⟨wc.heap.size + 1, 0, none⟩) 1 1) l [(x1, x2)] rfl rfl HO2.out (Rd2.one HX2.out) LEN2.out (by have := LTc.out; have := hb2.size; first | omega | (simp <;> omega)) ?_; simp [Region.wanted]; intro v3 we ho4 hg4
         obtain ⟨hb4, hbx4, hs4⟩ := step_keep0 (base := w.heap.size) hb2 (Nat.lt_of_lt_of_le LTc.out hb2.size) (fun k hk => (HO2.out.lt k hk).1) hg4 HBX2.out
         have hx0c4 : we.cell? ⟨w.heap.size, 0, none⟩ = some (.int .u32 (x1 : Int)) := by rw [cell_of_row _ _ _ _ _ _ hbx4]; rfl
         have hx1c4 : we.cell? ⟨w.heap.size, 1, none⟩ = some (.int .u32 (x2 : Int)) := by rw [cell_of_row _ _ _ _ _ _ hbx4]; rfl
         have HBX4 := hid hbx4
         clear hg4 hbx4)
      | (refine step_app2 ?_ (.tmp 20) (.tmp 22) rfl (w.heap.size + 1) v2 (.slice (some ⟨wc.heap.size, 0, none⟩) 1 1) l [(x1, x2)] rfl rfl HO2.out (Rd2.one HX2.out) LEN2.out (by have := LTc.out; have := hb2.size; first | omega | (simp <;> omega)) ?_; simp [Region.wanted]; intro v3 we ho4 hg4
         obtain ⟨hb4, hbx4, hs4⟩ := step_keep0 (base := w.heap.size) hb2 (Nat.lt_of_lt_of_le LTc.out hb2.size) (fun k hk => (HO2.out.lt k hk).1) hg4 HBX2.out
         have hx0c4 : we.cell? ⟨w.heap.size, 0, none⟩ = some (.int .u32 (x1 : Int)) := by rw [cell_of_row _ _ _ _ _ _ hbx4]; rfl
         have hx1c4 : we.cell? ⟨w.heap.size, 1, none⟩ = some (.int .u32 (x2 : Int)) := by rw [cell_of_row _ _ _ _ _ _ hbx4]; rfl
         have HBX4 := hid hbx4
         clear hg4 hbx4)
      | (go_at_call 6; (with_reducible refine (overlap_any v3 (l ++ [(x1, x2)]) _ ho4.rd FIT2.out).mono ?_); rintro e wf ⟨rfl, hb5⟩
         have hb6 : Below w.heap.size wc wf := hb4.trans (hb5.mono (by have := LTc.out; have := hb4.size; omega))
         have hbx5 := (hb5.block w.heap.size (by have := LTc.out; have := hb4.size; omega)).trans HBX4.out
         have hx0c5 : wf.cell? ⟨w.heap.size, 0, none⟩ = some (.int .u32 (x1 : Int)) := by rw [cell_of_row _ _ _ _ _ _ hbx5]; rfl
         have hx1c5 : wf.cell? ⟨w.heap.size, 1, none⟩ = some (.int .u32 (x2 : Int)) := by rw [cell_of_row _ _ _ _ _ _ hbx5]; rfl
         have HBX5 := hid hbx5
         clear hbx5 hb5 ho4)
      | fail)) | fail)
  all_goals
    have HWF := hid (hwwc.trans (hb6.mono (Nat.le_refl _)))
    have hrdf0 := hrd.below HWF.out
    have HRDF := hid (show Rd2 wf.drew (.slice a0 100 cap0) l from hrdf0)
    clear hrdf0
    have HSF := hid (show w.heap.size < wf.heap.size from Nat.lt_of_lt_of_le hszwc hb6.size)
    have hy0 : wf.cell? ⟨w.heap.size, 0, none⟩ = some (.int .u32 (x1 : Int)) := by rw [cell_of_row _ _ _ _ _ _ HBX5.out]; rfl
    have hy1 : wf.cell? ⟨w.heap.size, 1, none⟩ = some (.int .u32 (x2 : Int)) := by rw [cell_of_row _ _ _ _ _ _ HBX5.out]; rfl
    have hyd0 : wf.drew.cell? ⟨w.heap.size, 0, none⟩ = some (.int .u32 (x1 : Int)) := hy0
    have hyd1 : wf.drew.cell? ⟨w.heap.size, 1, none⟩ = some (.int .u32 (x2 : Int)) := hy1
    clear hb6 hb4 hb2
    go_wp2_with fail
    (first | (go_region_held3 (fun w' => w'.cell? ⟨w.heap.size, 0, none⟩ = some (.int .u32 (x1 : Int)) ∧ w'.cell? ⟨w.heap.size, 1, none⟩ = some (.int .u32 (x2 : Int)))
      (first | (with_reducible refine ⟨?_, ?_⟩ <;> assumption) | go_keep | fail)
      (first
        | (go_at_call 7; (with_reducible refine (refoverlap_any (.slice a0 100 cap0) l _ HRDF.out HFIT.out).mono ?_); rintro e wg ⟨rfl, hbg0⟩
           have hbg : Below wf.heap.size wf wg := ⟨hbg0.os, hbg0.tape, hbg0.output, hbg0.size, hbg0.block⟩
           clear hbg0
           have hwwg : Below w.heap.size w wg := HWF.out.trans (hbg.mono (by have := HSF.out; omega))
           have hbxwg := (hbg.block w.heap.size HSF.out).trans HBX5.out
           have hrdwg := hrd.below hwwg
           have hszwg : w.heap.size < wg.heap.size := by have := hbg.size; have := HSF.out; omega
           have hE1g := hid (heap_alloc_new wg (.cells #[] 24))
           have hE2g := hid ((Below.heap_alloc (wg.alloc (.cells #[] 24)) (.cells #[.int .u32 (x1 : Int), .int .u32 (x2 : Int)] 24) wg.heap.size (by simp)).trans hE1g.out)
           have hE3g := hid (show ((wg.alloc (.cells #[.int .u32 (x1 : Int), .int .u32 (x2 : Int)] 24)).alloc (.cells #[] 24)).heap[wg.heap.size + 1]? = some (.cells #[] 24 (0, 0)) from by have := heap_alloc_new (wg.alloc (.cells #[.int .u32 (x1 : Int), .int .u32 (x2 : Int)] 24)) (.cells #[] 24); simpa using this)
           have hX2g := hid (show ((wg.alloc (.cells #[] 24)).alloc (.cells #[.int .u32 (x1 : Int), .int .u32 (x2 : Int)] 24)).heap[wg.heap.size + 1]? = some (.cells #[.int .u32 (x1 : Int), .int .u32 (x2 : Int)] 24 (0, 0)) from by have := heap_alloc_new (wg.alloc (.cells #[] 24)) (.cells #[.int .u32 (x1 : Int), .int .u32 (x2 : Int)] 24); simpa using this)
           have hX3g := hid ((Below.heap_alloc (wg.alloc (.cells #[.int .u32 (x1 : Int), .int .u32 (x2 : Int)] 24)) (.cells #[] 24) wg.heap.size (by simp)).trans (heap_alloc_new wg (.cells #[.int .u32 (x1 : Int), .int .u32 (x2 : Int)] 24)))
           have RBEg := hid (hrdwg.below ((Below.refl wg.heap.size wg).alloc (Nat.le_refl _) (.cells #[] 24)))
           have RBXg := hid (hrdwg.below ((Below.refl wg.heap.size wg).alloc (Nat.le_refl _) (.cells #[.int .u32 (x1 : Int), .int .u32 (x2 : Int)] 24)))
           have RBEXg := hid (hrdwg.below (((Below.refl wg.heap.size wg).alloc (Nat.le_refl _) (.cells #[] 24)).alloc (by simp) (.cells #[.int .u32 (x1 : Int), .int .u32 (x2 : Int)] 24)))
           have RBXEg := hid (hrdwg.below (((Below.refl wg.heap.size wg).alloc (Nat.le_refl _) (.cells #[.int .u32 (x1 : Int), .int .u32 (x2 : Int)] 24)).alloc (by simp) (.cells #[] 24)))
           have LTg := hid hszwg
           have BWg := hid (show w.heap.size + 1 ≤ wg.heap.size from hszwg)
           have HBXg := hid hbxwg
           have HRDg := hid hrdwg
           have hx0g : wg.cell? ⟨w.heap.size, 0, none⟩ = some (.int .u32 (x1 : Int)) := by rw [cell_of_row _ _ _ _ _ _ hbxwg]; rfl
           have hx1g : wg.cell? ⟨w.heap.size, 1, none⟩ = some (.int .u32 (x2 : Int)) := by rw [cell_of_row _ _ _ _ _ _ hbxwg]; rfl
           have ha0g := acell (o := (.cells #[] 24)) hszwg hx0g
           have ha1g := acell (o := (.cells #[] 24)) hszwg hx1g
           have hb0g := acell (o := (.cells #[.int .u32 (x1 : Int), .int .u32 (x2 : Int)] 24)) hszwg hx0g
           have hb1g := acell (o := (.cells #[.int .u32 (x1 : Int), .int .u32 (x2 : Int)] 24)) hszwg hx1g
           have hc0g := acell (o := (.cells #[.int .u32 (x1 : Int), .int .u32 (x2 : Int)] 24)) (asize (o := (.cells #[] 24)) hszwg) ha0g
           have hc1g := acell (o := (.cells #[.int .u32 (x1 : Int), .int .u32 (x2 : Int)] 24)) (asize (o := (.cells #[] 24)) hszwg) ha1g
           have hd0g := acell (o := (.cells #[] 24)) (asize (o := (.cells #[.int .u32 (x1 : Int), .int .u32 (x2 : Int)] 24)) hszwg) hb0g
           have hd1g := acell (o := (.cells #[] 24)) (asize (o := (.cells #[.int .u32 (x1 : Int), .int .u32 (x2 : Int)] 24)) hszwg) hb1g
           clear hbxwg hrdwg)
        | (refine step_app2 ?_ (.tmp 31) (.tmp 32) rfl (w.heap.size + 1) (.slice (some ⟨wg.heap.size, 0, none⟩) 0 0) (.slice a0 100 cap0) [] l rfl rfl (Own2.empty hE1g.out (by have := LTg.out; omega)) RBEg.out LEN.out (by have := LTg.out; simp <;> omega) ?_; rfl; intro v2 wd ho2 hg2
           obtain ⟨hb2, hbx2, hs2⟩ := step_keep (base := w.heap.size) (Below.refl _ wg) (Nat.le_of_lt LTg.out) LTg.out (fun k hk => by have : wg.heap.size = k := Option.some.inj hk; have := LTg.out; omega) (hg2) HBXg.out
           have hx0g2 : wd.cell? ⟨w.heap.size, 0, none⟩ = some (.int .u32 (x1 : Int)) := by rw [cell_of_row _ _ _ _ _ _ hbx2]; rfl
           have hx1g2 : wd.cell? ⟨w.heap.size, 1, none⟩ = some (.int .u32 (x2 : Int)) := by rw [cell_of_row _ _ _ _ _ _ hbx2]; rfl
           have HO3 := hid (show Own2 (wd.alloc (.cells #[.int .u32 (x1 : Int), .int .u32 (x2 : Int)] 24)) (w.heap.size + 1) v2 l from ho2.below ((Below.refl _ _).alloc (Nat.le_refl _) _))
           have he0g := acell (o := (.cells #[.int .u32 (x1 : Int), .int .u32 (x2 : Int)] 24)) (show w.heap.size < wd.heap.size by omega) hx0g2
           have he1g := acell (o := (.cells #[.int .u32 (x1 : Int), .int .u32 (x2 : Int)] 24)) (show w.heap.size < wd.heap.size by omega) hx1g2
           have HY := hid (heap_alloc_new wd (.cells #[.int .u32 (x1 : Int), .int .u32 (x2 : Int)] 24))
           have HBX2 := hid hbx2
           clear ho2 hbx2 hg2)
        | (refine step_app2 ?_ (.tmp 31) (.tmp 32) rfl (w.heap.size + 1) (.slice (some ⟨wg.heap.size, 0, none⟩) 0 0) (.slice a0 100 cap0) [] l rfl rfl (Own2.empty hE2g.out (by have := LTg.out; omega)) RBEXg.out LEN.out (by have := LTg.out; simp <;> omega) ?_; rfl; intro v2 wd ho2 hg2
           obtain ⟨hb2, hbx2, hs2⟩ := step_keep (base := w.heap.size) (wd := wg.alloc (.cells #[] 24)) (o := (.cells #[.int .u32 (x1 : Int), .int .u32 (x2 : Int)] 24)) ((Below.refl w.heap.size wg).alloc (Nat.le_of_lt LTg.out) _) (Nat.le_of_lt LTg.out) (by have := LTg.out; simp <;> omega) (fun k hk => by have : wg.heap.size = k := Option.some.inj hk; have := LTg.out; omega) (hg2) ((Below.heap_alloc _ _ _ LTg.out).trans HBXg.out)
           have hx0g2 : wd.cell? ⟨w.heap.size, 0, none⟩ = some (.int .u32 (x1 : Int)) := by rw [cell_of_row _ _ _ _ _ _ hbx2]; rfl
           have hx1g2 : wd.cell? ⟨w.heap.size, 1, none⟩ = some (.int .u32 (x2 : Int)) := by rw [cell_of_row _ _ _ _ _ _ hbx2]; rfl
           have HX2 := hid (((hg2).block (wg.heap.size + 1) (by simp <;> omega) (fun e => by have : wg.heap.size = wg.heap.size + 1 := Option.some.inj e.symm; omega)).trans hX2g.out)
           have HO2 := hid (show Own2 wd (w.heap.size + 1) v2 l from ho2)
           have HBX2 := hid hbx2
           clear ho2 hbx2 hg2)
        | (refine step_app2 ?_ (.tmp 31) (.tmp 32) rfl (w.heap.size + 1) (.slice (some ⟨wg.heap.size + 1, 0, none⟩) 0 0) (.slice a0 100 cap0) [] l rfl rfl (Own2.empty hE3g.out (by have := LTg.out; omega)) RBXEg.out LEN.out (by have := LTg.out; simp <;> omega) ?_; rfl; intro v2 wd ho2 hg2
           obtain ⟨hb2, hbx2, hs2⟩ := step_keep (base := w.heap.size) (wd := wg.alloc (.cells #[.int .u32 (x1 : Int), .int .u32 (x2 : Int)] 24)) (o := (.cells #[] 24)) ((Below.refl w.heap.size wg).alloc (Nat.le_of_lt LTg.out) _) (Nat.le_of_lt LTg.out) (by have := LTg.out; simp <;> omega) (fun k hk => by have : wg.heap.size + 1 = k := Option.some.inj hk; have := LTg.out; omega) (hg2) ((Below.heap_alloc _ _ _ LTg.out).trans HBXg.out)
           have hx0g2 : wd.cell? ⟨w.heap.size, 0, none⟩ = some (.int .u32 (x1 : Int)) := by rw [cell_of_row _ _ _ _ _ _ hbx2]; rfl
           have hx1g2 : wd.cell? ⟨w.heap.size, 1, none⟩ = some (.int .u32 (x2 : Int)) := by rw [cell_of_row _ _ _ _ _ _ hbx2]; rfl
           have HX2 := hid (((hg2).block (wg.heap.size) (by simp <;> omega) (fun e => by have : wg.heap.size + 1 = wg.heap.size := Option.some.inj e.symm; omega)).trans hX3g.out)
           have HO2 := hid (show Own2 wd (w.heap.size + 1) v2 l from ho2)
           have HBX2 := hid hbx2
           clear ho2 hbx2 hg2)
        | (refine step_app2 ?_ (.tmp 33) (.tmp 35) rfl (w.heap.size + 1) v2 (.slice (some ⟨wd.heap.size, 0, none⟩) 1 1) l [(x1, x2)] rfl rfl HO3.out (Rd2.one HY.out) LEN2.out (by have := LTg.out; have := hb2.size; simp <;> omega) ?_; rfl; intro v3 we ho4 hg4
           obtain ⟨hb4, hbx4, hs4⟩ := step_keep (base := w.heap.size) hb2 (Nat.le_of_lt LTg.out) (Nat.lt_of_lt_of_le LTg.out hb2.size) (fun k hk => (HO3.out.lt k hk).1) hg4 HBX2.out
           have hx0g4 : we.cell? ⟨w.heap.size, 0, none⟩ = some (.int .u32 (x1 : Int)) := by rw [cell_of_row _ _ _ _ _ _ hbx4]; rfl
           have hx1g4 : we.cell? ⟨w.heap.size, 1, none⟩ = some (.int .u32 (x2 : Int)) := by rw [cell_of_row _ _ _ _ _ _ hbx4]; rfl
           have HBX4 := hid hbx4
           clear hg4 hbx4)
        | (refine step_app2 ?_ (.tmp 33) (.tmp 35) rfl (w.heap.size + 1) v2 (.slice (some ⟨wg.heap.size + 1, 0, none⟩) 1 1) l [(x1, x2)] rfl rfl HO2.out (Rd2.one HX2.out) LEN2.out (by have := LTg.out; have := hb2.size; first | omega | (simp <;> omega)) ?_; rfl; intro v3 we ho4 hg4
           obtain ⟨hb4, hbx4, hs4⟩ := step_keep0 (base := w.heap.size) hb2 (Nat.lt_of_lt_of_le LTg.out hb2.size) (fun k hk => (HO2.out.lt k hk).1) hg4 HBX2.out
           have hx0g4 : we.cell? ⟨w.heap.size, 0, none⟩ = some (.int .u32 (x1 : Int)) := by rw [cell_of_row _ _ _ _ _ _ hbx4]; rfl
           have hx1g4 : we.cell? ⟨w.heap.size, 1, none⟩ = some (.int .u32 (x2 : Int)) := by rw [cell_of_row _ _ _ _ _ _ hbx4]; rfl
           have HBX4 := hid hbx4
           clear hg4 hbx4)
        | (refine step_app2 ?_ (.tmp 33) (.tmp 35) rfl (w.heap.size + 1) v2 (.slice (some ⟨wg.heap.size, 0, none⟩) 1 1) l [(x1, x2)] rfl rfl HO2.out (Rd2.one HX2.out) LEN2.out (by have := LTg.out; have := hb2.size; first | omega | (simp <;> omega)) ?_; rfl; intro v3 we ho4 hg4
           obtain ⟨hb4, hbx4, hs4⟩ := step_keep0 (base := w.heap.size) hb2 (Nat.lt_of_lt_of_le LTg.out hb2.size) (fun k hk => (HO2.out.lt k hk).1) hg4 HBX2.out
           have hx0g4 : we.cell? ⟨w.heap.size, 0, none⟩ = some (.int .u32 (x1 : Int)) := by rw [cell_of_row _ _ _ _ _ _ hbx4]; rfl
           have hx1g4 : we.cell? ⟨w.heap.size, 1, none⟩ = some (.int .u32 (x2 : Int)) := by rw [cell_of_row _ _ _ _ _ _ hbx4]; rfl
           have HBX4 := hid hbx4
           clear hg4 hbx4)
        | (go_at_call 7; (with_reducible refine (refoverlap_any v3 (l ++ [(x1, x2)]) _ ho4.rd FIT2.out).mono ?_); rintro e wf ⟨rfl, hb5⟩
           have hb6 : Below w.heap.size wg wf := hb4.trans (hb5.mono (by have := LTg.out; have := hb4.size; omega))
           have hbx5 := (hb5.block w.heap.size (by have := LTg.out; have := hb4.size; omega)).trans HBX4.out
           have hx0g5 : wf.cell? ⟨w.heap.size, 0, none⟩ = some (.int .u32 (x1 : Int)) := by rw [cell_of_row _ _ _ _ _ _ hbx5]; rfl
           have hx1g5 : wf.cell? ⟨w.heap.size, 1, none⟩ = some (.int .u32 (x2 : Int)) := by rw [cell_of_row _ _ _ _ _ _ hbx5]; rfl
           have HBX5 := hid hbx5
           clear hbx5 hb5 ho4)
        | fail)) | fail)
  all_goals
    go_wp2_with fail
    go_ret
    exact ⟨rfl, hwwg.trans (hb6.mono (Nat.le_refl _))⟩

set_option maxHeartbeats 1000000 in
theorem walk (a0 : Option Addr) (len0 cap0 : Nat) (v1 : Value) (w : World) (w0 : IsL2 w a0 len0 cap0) (w1 : IsP2 w v1) :
    Calls Try.prog 3 #[.slice a0 len0 cap0, v1] w fun e w' => e = .returned (.bool true) ∧ Below w.heap.size w w' := by
  obtain ⟨x1, x2, rfl, hx1, hx2, _⟩ := w1
  obtain ⟨hlc, hcm, _⟩ := w0.bounds
  by_cases h100 : len0 ≤ 100
  · obtain ⟨l, hl, hrd, hfit⟩ := IsL2.rd w0 len0 (Nat.le_refl _)
    by_cases hz : len0 = 0
    · subst hz
      exact ov_zero a0 cap0 x1 x2 l w hx1 hx2 hcm hrd (hid hfit) (hid hl)
    · exact ov_some a0 len0 cap0 x1 x2 l w hx1 hx2 hcm hrd (hid hfit) (hid hl) (by omega) h100 hlc
  · obtain ⟨l, hl, hrd, hfit⟩ := IsL2.rd w0 100 (by omega)
    exact ov_many a0 len0 cap0 x1 x2 l w hx1 hx2 hcm hrd (hid hfit) (hid hl) (by omega) hlc

/-! ### THE ROW's STEP -/
set_option maxRecDepth 100000 in
theorem lifted (os : Os) (started : os.Started) (H : Type) (enc : TypeId × Value → H) :
    ReturnsInHanded {} Try.checked os 3 .any (Rows.capOverlapsSpec.pre6 enc Try.prog Try.f3 Rows.capOverlapsRow.domain false) (Rows.capOverlapsSpec.post enc Try.prog Try.f3 false true false false) := by
  refine returnsInHanded_of_change (C := Try.checked) own started (by kernel_rfl) Try.func3
    (ChangeSpec.witness6 (enc := enc) (C := Try.checked) false ⟨#[], #[.slice none 0 0, .agg #[.int .u32 0, .int .u32 0]], []⟩ 8 (by kernel_rfl) (by kernel_rfl) (by kernel_rfl) (by kernel_rfl)) ?_
  intro W base args ds gs before hval0 hW hcnd _
  have hval : ∀ (j : Nat) t v, Try.f3.params[j]? = some t → args[j]? = some v → Value.okWide Try.prog W .any base t v := hval0
  have hW' := hW
  obtain ⟨p, q, hA0, hV, rfl, hfz, hnd⟩ := hW
  have hA : DataW.TrodAll enc Try.prog W 0 (fun _ => true) true Try.f3.params.toList args.toList ds p := hA0
  rw [Try.params3] at hA hval
  obtain ⟨v0, vs0, d0, ds0, p0, q0, hargs, rfl, rfl, h0, r0⟩ := trodAll_cons hA
  obtain ⟨v1, vs1, d1, ds1, p1, q1, rfl, rfl, rfl, h1, r1⟩ := trodAll_cons r0
  obtain ⟨rfl, rfl, rfl⟩ := trodAll_nil r1
  obtain rfl : args = #[v0, v1] := by cases args; simp_all
  obtain ⟨rfl, rfl⟩ := trodVars_none hV
  have k0 := h0
  have lt0 : ∀ x ∈ p0, x.block < W.heap.size := by obtain ⟨m, hm⟩ := k0; exact DataW.trod_lt m _ _ _ hm
  have k1 := h1
  have lt1 : ∀ x ∈ p1, x.block < W.heap.size := by obtain ⟨m, hm⟩ := k1; exact DataW.trod_lt m _ _ _ hm
  obtain ⟨a0, len0, cap0, rfl⟩ := okWide_slice Try.underlying22 (hval 0 22 v0 rfl rfl)
  have w0 : IsL2 W a0 len0 cap0 := isL2_of h0
  have w1 : IsP2 W v1 := isP2_of (hval 1 24 v1 rfl rfl) h1
  clear hA0 hval0
  refine (walk a0 len0 cap0 v1 W w0 w1).mono fun e W' ⟨he, bel⟩ => ?_
  subst he
  exact ⟨_, rfl, _, _, _, [], _, [], hW', trodAll_mk1 (shut_bool Try.underlying4 _), (trodAll_cons_mk (Below.trod laidOut (by kernel_rfl) (of_decide_eq_true (by kernel_rfl)) k0 bel lt0) (trodAll_cons_mk (Below.trod laidOut (by kernel_rfl) (of_decide_eq_true (by kernel_rfl)) k1 bel lt1) trodAll_mk0)), rfl, bel.frame _, fun h => by cases h⟩

theorem over : Rows.capOverlapsRow.holds Try.pinned (OpenSpec.ofChange Rows.capOverlapsSpec) :=
  OpenClaim.holds_of_wide 3 Try.f3 rfl rfl rfl rfl rfl rfl rfl ⟨rfl, rfl, rfl, rfl, rfl⟩ rfl rfl rfl rfl rfl (by kernel_rfl) Try.func3 (by kernel_rfl)
    (of_decide_eq_true (by kernel_rfl)) (by unfold Func.isWrapper; first | (rw [if_pos (by decide +kernel)]; kernel_rfl) | (rw [if_neg (by decide +kernel)]; exact ⟨rfl, rfl⟩))
    (fun os started H enc _ => lifted os started H enc)

/-- THE STATEMENT -/
theorem capOverlaps_holds : Rows.CapOverlapsSaid := over
#print axioms capOverlaps_holds
end Go.Proofs.Ytajdhnhnknmedaa.capOverlaps
