/-
  Every script of who comes, changes and goes has the document's answers, behind each step the heap is the document's list, in its order; a nil heap's answers, too.
  (The frame behind the walk is the guide's shell, at these parameters.)
-/
import Derived.Test.YtcgfechodbmimaaRows
import Derived.WalkKit
import Derived.Test.YtcgfechodbmimaaPrPs
import Derived.ProofKit
import Derived.Deep.Cut
import Derived.Deep.CutRange
import Derived.Deep.CutBlock
import Derived.Deep.Grids
import Derived.OpenShut
import Derived.ShutString
import Derived.ChangeOld
import Derived.Below
namespace Go.Proofs.Ytcgfechodbmimaa.prioPlays
open Go.ChangeShapes Go.WideShapes Go.ChangeAt Go.RowKit
open Go.ChangeMaps (open_string shut_string)
set_option linter.unusedVariables false

theorem own : ownKnob Try.prog.godebug = none := by kernel_rfl
theorem laidOut : laidOutB Try.prog = true := by kernel_rfl

set_option linter.unusedSimpArgs false
set_option maxRecDepth 100000 in
set_option maxHeartbeats 16000000 in
theorem walk (a0 : Bool) (a1 : Option Addr) (len1 cap1 : Nat) (w : World) (w1 : IsOps11 w a1 len1 cap1) :
    Calls Try.prog 3 #[.bool a0, .slice a1 len1 cap1] w fun e w' => e = .returned (.bool true) ∧ Below w.heap.size w w' := by
  obtain ⟨hlc, hcm⟩ := w1.bounds
  have HOP := hid w1
  clear w1
  go_enter Try.func3, Try.ntmps3
  go_wp2_with fail
  refine (awake11_any w).mono ?_
  rintro e x1 ⟨rfl, hb1⟩
  have HB1 := hid hb1
  clear hb1
  go_wp2_with fail
  refine (new11_any x1).mono ?_
  rintro e x2 ⟨rfl, hr2, hb2⟩
  have HB2 := hid (HB1.out.trans (hb2.mono HB1.out.size))
  have HPF := hid (show PP x2 w.heap.size false (some ⟨x1.heap.size + 1, 0, none⟩) (.slice none 0 0) [] 0 from PP.mk hr2 (fun k _ h => absurd h (by simp)) (List.length_eq_zero_iff.1 (inOrder_len [])).symm (RdL.nil _ _) HB1.out.size (Nat.le_refl _))
  clear hr2 hb2
  cases a0 with
  | false =>
    obtain ⟨hp, hhp⟩ : ∃ hp : Option Addr, hp = some ⟨x1.heap.size + 1, 0, none⟩ := ⟨_, rfl⟩
    have HPS := hid (show PP x2 w.heap.size false hp (.slice none 0 0) [] 0 from by rw [hhp]; exact HPF.out)
    go_wp2_with fail
    rw [← hhp]
    clear hhp HPF
    go_loopw [6, 24] (fun u i wr => ∃ (k : Nat) (l : List It), i = .int .i64 k ∧ k ≤ len1 ∧ k ≤ 100 ∧ PP wr w.heap.size false hp u l k ∧ Below w.heap.size w wr) (fun _ i _ => len1 - (intOf i).toNat)
    case atStart => exact ⟨0, [], rfl, Nat.zero_le _, Nat.zero_le _, HPS.out, HB2.out⟩
    case round =>
      obtain ⟨k, l, rfl, hk, hk1, hP, hB⟩ := hrel
      have HP := hid hP
      have HB := hid hB
      clear hP
      by_cases hlt : k < len1
      · obtain ⟨gb, off, d, x, rfl, hkx, z0, z1, z2, z3⟩ := HOP.out.at hB hlt
        have HKX := hid hkx
        have HKL := hid hlt
        have hki : (k : Int) < (len1 : Int) := by omega
        have hw1 := w64t k (by omega)
        obtain ⟨y1, hy1⟩ : ∃ y, y = wr.alloc (.cells #[.int .u8 d, .int .u32 x.1, .int .u8 x.2.1, .int .u32 x.2.2] 31) := ⟨_, rfl⟩
        have hby : Below wr.heap.size wr y1 := by rw [hy1]; exact (Below.refl _ _).alloc (Nat.le_refl _) _
        have hbx : y1.heap[wr.heap.size]? = some (.cells #[.int .u8 d, .int .u32 x.1, .int .u8 x.2.1, .int .u32 x.2.2] 31 (0, 0)) := by rw [hy1]; exact heap_alloc_new wr _
        obtain ⟨pb, hpb⟩ : ∃ p, p = wr.heap.size := ⟨_, rfl⟩
        rw [← hpb] at hbx
        have HBX := hid hbx
        have HY1 := hid hby
        have HBY1 := hid (hB.trans (hby.mono hB.size))
        have o0 : y1.cell? ⟨pb, 0, none⟩ = some (.int .u8 d) := (cell_of_row _ _ _ _ _ _ hbx).trans rfl
        have o1 : y1.cell? ⟨pb, 1, none⟩ = some (.int .u32 x.1) := (cell_of_row _ _ _ _ _ _ hbx).trans rfl
        have o2 : y1.cell? ⟨pb, 2, none⟩ = some (.int .u8 x.2.1) := (cell_of_row _ _ _ _ _ _ hbx).trans rfl
        have o3 : y1.cell? ⟨pb, 3, none⟩ = some (.int .u32 x.2.2) := (cell_of_row _ _ _ _ _ _ hbx).trans rfl
        clear hby hbx hB hkx hlt
        go_upto_region 10 with (fail)
        rw [← hy1, ← hpb]
        clear hy1 hpb z0 z1 z2 z3
        by_cases h100 : k = 100
        · have d1 : decide ((k : Int) ≥ 100) = true := decide_eq_true (by omega)
          have d2 : decide ((100 : Int) ≤ (k : Int)) = true := decide_eq_true (by omega)
          clear h100 hk1 hk
          go_wp2_with fail
          go_ret
          exact ⟨rfl, HBY1.out⟩
        · have d1 : decide ((k : Int) ≥ 100) = false := decide_eq_false (by omega)
          have d2 : decide ((100 : Int) ≤ (k : Int)) = false := decide_eq_false (by omega)
          have HK1 := hid (show k < 100 by omega)
          clear h100 hk1 hk
          obtain ⟨y2, hy2⟩ : ∃ y, y = y1.alloc (.cells #[.int .u32 x.1, .int .u8 x.2.1, .int .u32 x.2.2] 32) := ⟨_, rfl⟩
          have hb2 : Below y1.heap.size y1 y2 := by rw [hy2]; exact (Below.refl _ _).alloc (Nat.le_refl _) _
          have hbx2 : y2.heap[y1.heap.size]? = some (.cells #[.int .u32 x.1, .int .u8 x.2.1, .int .u32 x.2.2] 32 (0, 0)) := by rw [hy2]; exact heap_alloc_new y1 _
          have HOz := hid ((hb2.block pb (Array.getElem?_eq_some_iff.1 HBX.out).1).trans HBX.out)
          have HXz := hid hbx2
          have HBz := hid (HBY1.out.trans (hb2.mono HBY1.out.size))
          have HPz := hid ((HP.out.below HY1.out).below hb2)
          have v0 : y2.cell? ⟨pb, 0, none⟩ = some (.int .u8 d) := (cell_of_row _ _ _ _ _ _ HOz.out).trans rfl
          have v1 : y2.cell? ⟨pb, 1, none⟩ = some (.int .u32 x.1) := (cell_of_row _ _ _ _ _ _ HOz.out).trans rfl
          have v2 : y2.cell? ⟨pb, 2, none⟩ = some (.int .u8 x.2.1) := (cell_of_row _ _ _ _ _ _ HOz.out).trans rfl
          have v3 : y2.cell? ⟨pb, 3, none⟩ = some (.int .u32 x.2.2) := (cell_of_row _ _ _ _ _ _ HOz.out).trans rfl
          obtain ⟨px, hpx⟩ : ∃ p, p = y1.heap.size := ⟨_, rfl⟩
          clear hb2 hbx2
          go_upto_region 12 with (fail)
          rw [← hy2, ← hpx]
          rw [← hpx] at HXz
          clear hy2 hpx o0 o1 o2 o3
          obtain ⟨lz, hlz⟩ : ∃ lz, lz = l := ⟨_, rfl⟩
          subst hlz
          by_cases hd0 : d = 0
          · as_aux_lemma =>
            subst hd0
            have h1 := pp_push y2 w.heap.size k hp _ _ x HPz.out HKX.out (by have := HK1.out; omega)
            unfold itv at h1
            have HPU := hid h1
            clear h1
            go_upto_region 20 with (first
              | (go_at_call 7; (with_reducible refine HPU.out.mono ?_); rintro e w5 ⟨r1, e1, rfl, hb5, hc5⟩; have HC5 := hid (hc5 w5 (Below.refl _ _)); have HB5 := hid (HBz.out.trans (hb5.mono HBz.out.size)); have HO5 := hid ((hb5.block pb (Array.getElem?_eq_some_iff.1 HOz.out).1).trans HOz.out); have hx5 := (hb5.block px (Array.getElem?_eq_some_iff.1 HXz.out).1).trans HXz.out; have HX5 := hid hx5; have q0 : w5.cell? ⟨px, 0, none⟩ = some (.int .u32 x.1) := (cell_of_row _ _ _ _ _ _ hx5).trans rfl; have q1 : w5.cell? ⟨px, 1, none⟩ = some (.int .u8 x.2.1) := (cell_of_row _ _ _ _ _ _ hx5).trans rfl; have q2 : w5.cell? ⟨px, 2, none⟩ = some (.int .u32 x.2.2) := (cell_of_row _ _ _ _ _ _ hx5).trans rfl; have r1 : w5.cell? ⟨pb, 1, none⟩ = some (.int .u32 x.1) := (cell_of_row _ _ _ _ _ _ HO5.out).trans rfl; have r2 : w5.cell? ⟨pb, 2, none⟩ = some (.int .u8 x.2.1) := (cell_of_row _ _ _ _ _ _ HO5.out).trans rfl; have r3 : w5.cell? ⟨pb, 3, none⟩ = some (.int .u32 x.2.2) := (cell_of_row _ _ _ _ _ _ HO5.out).trans rfl; clear hb5 hx5; clear hc5)
              | fail)
            go_upto_region 40 with (first
              | (go_at_call 8; (with_reducible refine HC5.out.mono ?_); rintro e w6 ⟨rfl, ⟨lz, hp6⟩, hb6, hk6⟩; have HPz := hid hp6; have HOz := hid (hk6 pb _ HO5.out); have HBz := hid (HB5.out.trans hb6); clear hp6 hb6 hk6)
              | fail)
            obtain ⟨S, hS⟩ := HPz.out.rd
            have HSM := hid (fun W (hb : Below w6.heap.size w6 W) => (HPz.out.below hb).same)
            have HHA := hid (fun W (hb : Below w6.heap.size w6 W) => (HPz.out.below hb).has HKX.out)
            have HFD := hid (fun W (hb : Below w6.heap.size w6 W) => find11_any W S _ _ x.1 (hS.below hb))
            have HD := fnd_is lz x.1
            have b1 : w6.drew.cell? ⟨pb, 1, none⟩ = some (.int .u32 x.1) := (cell_of_row w6 _ _ _ _ _ HOz.out).trans rfl
            have HOC := hid (fun (W : World) (hb : Below w6.heap.size w6 W) => show W.cell? ⟨pb, 1, none⟩ = some (.int .u32 x.1) from (cell_of_row W _ _ _ _ _ ((hb.block pb (Array.getElem?_eq_some_iff.1 HOz.out).1).trans HOz.out)).trans rfl)
            clear hS
            go_region_held3 (fun w' => w'.cell? ⟨pb, 1, none⟩ = some (.int .u32 x.1)) (first | assumption | fail)
              (first
                | (go_at_call 13; (with_reducible refine (HSM.out _ (Below.refl _ _).drew).mono ?_); rintro e s1 ⟨rfl, hs1⟩; have HS1 := hid (show Below w6.heap.size w6 s1 from (Below.refl _ w6).drew.trans hs1); have c1 := HOC.out s1 HS1.out; clear hs1)
                | (go_at_call 14; (with_reducible refine (HHA.out s1 HS1.out).mono ?_); rintro e s2 ⟨rfl, rfl⟩)
                | (go_at_call 15; (with_reducible refine (HFD.out s1 HS1.out).mono ?_); rintro e s3 ⟨rfl, hs3⟩; have HS3 := hid (show Below w6.heap.size w6 s3 from HS1.out.trans (hs3.mono HS1.out.size)); have c3 := HOC.out s3 HS3.out; clear hs3)
                | fail)
            go_wp2_with fail
            go_roundw
            case rel => exact ⟨k + 1, lz, by go_num, HKL.out, by have := HK1.out; omega, HPz.out.below HS3.out, HBz.out.trans (HS3.out.mono HBz.out.size)⟩
            case measure => have := HKL.out; simp [intOf]; omega
          · by_cases hd1 : d = 1
            · as_aux_lemma =>
              subst hd1
              have h1 := pp_push y2 w.heap.size k hp _ _ x HPz.out HKX.out (by have := HK1.out; omega)
              unfold itv at h1
              have HPU := hid h1
              clear h1
              go_upto_region 20 with (first
                | (go_at_call 7; (with_reducible refine HPU.out.mono ?_); rintro e w5 ⟨r1, e1, rfl, hb5, hc5⟩; have HC5 := hid (hc5 w5 (Below.refl _ _)); have HB5 := hid (HBz.out.trans (hb5.mono HBz.out.size)); have HO5 := hid ((hb5.block pb (Array.getElem?_eq_some_iff.1 HOz.out).1).trans HOz.out); have hx5 := (hb5.block px (Array.getElem?_eq_some_iff.1 HXz.out).1).trans HXz.out; have HX5 := hid hx5; have q0 : w5.cell? ⟨px, 0, none⟩ = some (.int .u32 x.1) := (cell_of_row _ _ _ _ _ _ hx5).trans rfl; have q1 : w5.cell? ⟨px, 1, none⟩ = some (.int .u8 x.2.1) := (cell_of_row _ _ _ _ _ _ hx5).trans rfl; have q2 : w5.cell? ⟨px, 2, none⟩ = some (.int .u32 x.2.2) := (cell_of_row _ _ _ _ _ _ hx5).trans rfl; have r1 : w5.cell? ⟨pb, 1, none⟩ = some (.int .u32 x.1) := (cell_of_row _ _ _ _ _ _ HO5.out).trans rfl; have r2 : w5.cell? ⟨pb, 2, none⟩ = some (.int .u8 x.2.1) := (cell_of_row _ _ _ _ _ _ HO5.out).trans rfl; have r3 : w5.cell? ⟨pb, 3, none⟩ = some (.int .u32 x.2.2) := (cell_of_row _ _ _ _ _ _ HO5.out).trans rfl; clear hb5 hx5; clear hc5)
                | fail)
              go_upto_region 40 with (first
                | (go_at_call 8; (with_reducible refine HC5.out.mono ?_); rintro e w6 ⟨rfl, ⟨lz, hp6⟩, hb6, hk6⟩; have HPz := hid hp6; have HOz := hid (hk6 pb _ HO5.out); have HBz := hid (HB5.out.trans hb6); clear hp6 hb6 hk6)
                | fail)
              obtain ⟨S, hS⟩ := HPz.out.rd
              have HSM := hid (fun W (hb : Below w6.heap.size w6 W) => (HPz.out.below hb).same)
              have HHA := hid (fun W (hb : Below w6.heap.size w6 W) => (HPz.out.below hb).has HKX.out)
              have HFD := hid (fun W (hb : Below w6.heap.size w6 W) => find11_any W S _ _ x.1 (hS.below hb))
              have HD := fnd_is lz x.1
              have b1 : w6.drew.cell? ⟨pb, 1, none⟩ = some (.int .u32 x.1) := (cell_of_row w6 _ _ _ _ _ HOz.out).trans rfl
              have HOC := hid (fun (W : World) (hb : Below w6.heap.size w6 W) => show W.cell? ⟨pb, 1, none⟩ = some (.int .u32 x.1) from (cell_of_row W _ _ _ _ _ ((hb.block pb (Array.getElem?_eq_some_iff.1 HOz.out).1).trans HOz.out)).trans rfl)
              clear hS
              go_region_held3 (fun w' => w'.cell? ⟨pb, 1, none⟩ = some (.int .u32 x.1)) (first | assumption | fail)
                (first
                  | (go_at_call 13; (with_reducible refine (HSM.out _ (Below.refl _ _).drew).mono ?_); rintro e s1 ⟨rfl, hs1⟩; have HS1 := hid (show Below w6.heap.size w6 s1 from (Below.refl _ w6).drew.trans hs1); have c1 := HOC.out s1 HS1.out; clear hs1)
                  | (go_at_call 14; (with_reducible refine (HHA.out s1 HS1.out).mono ?_); rintro e s2 ⟨rfl, rfl⟩)
                  | (go_at_call 15; (with_reducible refine (HFD.out s1 HS1.out).mono ?_); rintro e s3 ⟨rfl, hs3⟩; have HS3 := hid (show Below w6.heap.size w6 s3 from HS1.out.trans (hs3.mono HS1.out.size)); have c3 := HOC.out s3 HS3.out; clear hs3)
                  | fail)
              go_wp2_with fail
              go_roundw
              case rel => exact ⟨k + 1, lz, by go_num, HKL.out, by have := HK1.out; omega, HPz.out.below HS3.out, HBz.out.trans (HS3.out.mono HBz.out.size)⟩
              case measure => have := HKL.out; simp [intOf]; omega
            · by_cases hd2 : d = 2
              · as_aux_lemma =>
                subst hd2
                have h1 := pp_push y2 w.heap.size k hp _ _ x HPz.out HKX.out (by have := HK1.out; omega)
                unfold itv at h1
                have HPU := hid h1
                clear h1
                go_upto_region 20 with (first
                  | (go_at_call 7; (with_reducible refine HPU.out.mono ?_); rintro e w5 ⟨r1, e1, rfl, hb5, hc5⟩; have HC5 := hid (hc5 w5 (Below.refl _ _)); have HB5 := hid (HBz.out.trans (hb5.mono HBz.out.size)); have HO5 := hid ((hb5.block pb (Array.getElem?_eq_some_iff.1 HOz.out).1).trans HOz.out); have hx5 := (hb5.block px (Array.getElem?_eq_some_iff.1 HXz.out).1).trans HXz.out; have HX5 := hid hx5; have q0 : w5.cell? ⟨px, 0, none⟩ = some (.int .u32 x.1) := (cell_of_row _ _ _ _ _ _ hx5).trans rfl; have q1 : w5.cell? ⟨px, 1, none⟩ = some (.int .u8 x.2.1) := (cell_of_row _ _ _ _ _ _ hx5).trans rfl; have q2 : w5.cell? ⟨px, 2, none⟩ = some (.int .u32 x.2.2) := (cell_of_row _ _ _ _ _ _ hx5).trans rfl; have r1 : w5.cell? ⟨pb, 1, none⟩ = some (.int .u32 x.1) := (cell_of_row _ _ _ _ _ _ HO5.out).trans rfl; have r2 : w5.cell? ⟨pb, 2, none⟩ = some (.int .u8 x.2.1) := (cell_of_row _ _ _ _ _ _ HO5.out).trans rfl; have r3 : w5.cell? ⟨pb, 3, none⟩ = some (.int .u32 x.2.2) := (cell_of_row _ _ _ _ _ _ HO5.out).trans rfl; clear hb5 hx5; clear hc5)
                  | fail)
                go_upto_region 40 with (first
                  | (go_at_call 8; (with_reducible refine HC5.out.mono ?_); rintro e w6 ⟨rfl, ⟨lz, hp6⟩, hb6, hk6⟩; have HPz := hid hp6; have HOz := hid (hk6 pb _ HO5.out); have HBz := hid (HB5.out.trans hb6); clear hp6 hb6 hk6)
                  | fail)
                obtain ⟨S, hS⟩ := HPz.out.rd
                have HSM := hid (fun W (hb : Below w6.heap.size w6 W) => (HPz.out.below hb).same)
                have HHA := hid (fun W (hb : Below w6.heap.size w6 W) => (HPz.out.below hb).has HKX.out)
                have HFD := hid (fun W (hb : Below w6.heap.size w6 W) => find11_any W S _ _ x.1 (hS.below hb))
                have HD := fnd_is lz x.1
                have b1 : w6.drew.cell? ⟨pb, 1, none⟩ = some (.int .u32 x.1) := (cell_of_row w6 _ _ _ _ _ HOz.out).trans rfl
                have HOC := hid (fun (W : World) (hb : Below w6.heap.size w6 W) => show W.cell? ⟨pb, 1, none⟩ = some (.int .u32 x.1) from (cell_of_row W _ _ _ _ _ ((hb.block pb (Array.getElem?_eq_some_iff.1 HOz.out).1).trans HOz.out)).trans rfl)
                clear hS
                go_region_held3 (fun w' => w'.cell? ⟨pb, 1, none⟩ = some (.int .u32 x.1)) (first | assumption | fail)
                  (first
                    | (go_at_call 13; (with_reducible refine (HSM.out _ (Below.refl _ _).drew).mono ?_); rintro e s1 ⟨rfl, hs1⟩; have HS1 := hid (show Below w6.heap.size w6 s1 from (Below.refl _ w6).drew.trans hs1); have c1 := HOC.out s1 HS1.out; clear hs1)
                    | (go_at_call 14; (with_reducible refine (HHA.out s1 HS1.out).mono ?_); rintro e s2 ⟨rfl, rfl⟩)
                    | (go_at_call 15; (with_reducible refine (HFD.out s1 HS1.out).mono ?_); rintro e s3 ⟨rfl, hs3⟩; have HS3 := hid (show Below w6.heap.size w6 s3 from HS1.out.trans (hs3.mono HS1.out.size)); have c3 := HOC.out s3 HS3.out; clear hs3)
                    | fail)
                go_wp2_with fail
                go_roundw
                case rel => exact ⟨k + 1, lz, by go_num, HKL.out, by have := HK1.out; omega, HPz.out.below HS3.out, HBz.out.trans (HS3.out.mono HBz.out.size)⟩
                case measure => have := HKL.out; simp [intOf]; omega
              · by_cases hd3 : d = 3
                · as_aux_lemma =>
                  subst hd3
                  by_cases hl0 : lz = []
                  · subst hl0
                    obtain ⟨S0, ua, uc, hu, -⟩ := HPz.out.rd
                    replace hu : _ = Value.slice ua 0 uc := hu
                    subst hu
                    have h1 := pp_pop0 y2 w.heap.size k false hp _ HPz.out
                    unfold itv at h1
                    have HPU := hid h1
                    clear h1
                    go_upto_region 24 with (first
                      | (go_at_call 9; (with_reducible refine HPU.out.mono ?_); rintro e w5 ⟨rfl, hb5⟩; have HP5 := hid (HPz.out.below hb5); have HB5 := hid (HBz.out.trans (hb5.mono HBz.out.size)); have HO5 := hid ((hb5.block pb (Array.getElem?_eq_some_iff.1 HOz.out).1).trans HOz.out); have hx5 := (hb5.block px (Array.getElem?_eq_some_iff.1 HXz.out).1).trans HXz.out; have HX5 := hid hx5; have q0 : w5.cell? ⟨px, 0, none⟩ = some (.int .u32 x.1) := (cell_of_row _ _ _ _ _ _ hx5).trans rfl; have q1 : w5.cell? ⟨px, 1, none⟩ = some (.int .u8 x.2.1) := (cell_of_row _ _ _ _ _ _ hx5).trans rfl; have q2 : w5.cell? ⟨px, 2, none⟩ = some (.int .u32 x.2.2) := (cell_of_row _ _ _ _ _ _ hx5).trans rfl; have r1 : w5.cell? ⟨pb, 1, none⟩ = some (.int .u32 x.1) := (cell_of_row _ _ _ _ _ _ HO5.out).trans rfl; have r2 : w5.cell? ⟨pb, 2, none⟩ = some (.int .u8 x.2.1) := (cell_of_row _ _ _ _ _ _ HO5.out).trans rfl; have r3 : w5.cell? ⟨pb, 3, none⟩ = some (.int .u32 x.2.2) := (cell_of_row _ _ _ _ _ _ HO5.out).trans rfl; clear hb5 hx5)
                      | fail)
                    clear q0 q1 q2 r1 r2 r3
                    obtain ⟨w6, hw6⟩ : ∃ x, x = w5.alloc (.cells #[.int .u32 0, .int .u8 0, .int .u32 0] 32) := ⟨_, rfl⟩
                    have hb6 : Below w5.heap.size w5 w6 := by rw [hw6]; exact (Below.refl _ _).alloc (Nat.le_refl _) _
                    have hg6 : w6.heap[w5.heap.size]? = some (.cells #[.int .u32 0, .int .u8 0, .int .u32 0] 32 (0, 0)) := by rw [hw6]; exact heap_alloc_new w5 _
                    rw [← hw6]
                    have HP6 := hid (HP5.out.below hb6)
                    have HO6 := hid ((hb6.block pb (Array.getElem?_eq_some_iff.1 HO5.out).1).trans HO5.out)
                    have HB6 := hid (HB5.out.trans (hb6.mono HB5.out.size))
                    have q0 : w6.cell? ⟨w5.heap.size, 0, none⟩ = some (.int .u32 0) := (cell_of_row _ _ _ _ _ _ hg6).trans rfl
                    have q1 : w6.cell? ⟨w5.heap.size, 1, none⟩ = some (.int .u8 0) := (cell_of_row _ _ _ _ _ _ hg6).trans rfl
                    have q2 : w6.cell? ⟨w5.heap.size, 2, none⟩ = some (.int .u32 0) := (cell_of_row _ _ _ _ _ _ hg6).trans rfl
                    clear hw6 hb6 hg6
                    go_quiet (fail)
                    obtain ⟨w7, hw7⟩ : ∃ x, x = w6.drewN nq := ⟨_, rfl⟩
                    have hb7 : Below w6.heap.size w6 w7 := by rw [hw7]; exact ⟨rfl, rfl, rfl, Nat.le_refl _, fun _ _ => rfl⟩
                    rw [← hw7]
                    have HPz := hid (HP6.out.below hb7)
                    have HOz := hid ((hb7.block pb (Array.getElem?_eq_some_iff.1 HO6.out).1).trans HO6.out)
                    have HBz := hid (HB6.out.trans (hb7.mono HB6.out.size))
                    clear hw7 hb7 q0 q1 q2
                    go_upto_region 40 with (fail)
                    obtain ⟨lz, hlz⟩ : ∃ lz : List It, lz = [] := ⟨_, rfl⟩
                    rw [← hlz] at HPz
                    clear hlz
                    obtain ⟨S, hS⟩ := HPz.out.rd
                    have HSM := hid (fun W (hb : Below w7.heap.size w7 W) => (HPz.out.below hb).same)
                    have HHA := hid (fun W (hb : Below w7.heap.size w7 W) => (HPz.out.below hb).has HKX.out)
                    have HFD := hid (fun W (hb : Below w7.heap.size w7 W) => find11_any W S _ _ x.1 (hS.below hb))
                    have HD := fnd_is lz x.1
                    have b1 : w7.drew.cell? ⟨pb, 1, none⟩ = some (.int .u32 x.1) := (cell_of_row w7 _ _ _ _ _ HOz.out).trans rfl
                    have HOC := hid (fun (W : World) (hb : Below w7.heap.size w7 W) => show W.cell? ⟨pb, 1, none⟩ = some (.int .u32 x.1) from (cell_of_row W _ _ _ _ _ ((hb.block pb (Array.getElem?_eq_some_iff.1 HOz.out).1).trans HOz.out)).trans rfl)
                    clear hS
                    go_region_held3 (fun w' => w'.cell? ⟨pb, 1, none⟩ = some (.int .u32 x.1)) (first | assumption | fail)
                      (first
                        | (go_at_call 13; (with_reducible refine (HSM.out _ (Below.refl _ _).drew).mono ?_); rintro e s1 ⟨rfl, hs1⟩; have HS1 := hid (show Below w7.heap.size w7 s1 from (Below.refl _ w7).drew.trans hs1); have c1 := HOC.out s1 HS1.out; clear hs1)
                        | (go_at_call 14; (with_reducible refine (HHA.out s1 HS1.out).mono ?_); rintro e s2 ⟨rfl, rfl⟩)
                        | (go_at_call 15; (with_reducible refine (HFD.out s1 HS1.out).mono ?_); rintro e s3 ⟨rfl, hs3⟩; have HS3 := hid (show Below w7.heap.size w7 s3 from HS1.out.trans (hs3.mono HS1.out.size)); have c3 := HOC.out s3 HS3.out; clear hs3)
                        | fail)
                    go_wp2_with fail
                    go_roundw
                    case rel => exact ⟨k + 1, lz, by go_num, HKL.out, by have := HK1.out; omega, (HPz.out.more (Nat.le_succ k)).below HS3.out, HBz.out.trans (HS3.out.mono HBz.out.size)⟩
                    case measure => have := HKL.out; simp [intOf]; omega
                  · obtain ⟨S0, ua, uc, hu, hnc, hcmu, h4⟩ := HPz.out.rd
                    have hlp : 0 < lz.length := List.length_pos_iff.2 hl0
                    obtain ⟨gu, ou, rfl, -⟩ := h4 0 hlp
                    obtain ⟨n, hn⟩ : ∃ n, lz.length = n + 1 := ⟨lz.length - 1, by omega⟩
                    rw [hn] at hu hnc
                    subst hu
                    clear h4 hlp
                    have h1 := pp_pop y2 w.heap.size k gu ou n uc hp lz HPz.out hn
                    unfold itv at h1
                    have HPU := hid h1
                    have HLN := hid hn
                    obtain ⟨N, hN⟩ : ∃ N, N = n + 1 := ⟨_, rfl⟩
                    rw [← hN] at HPU HPz hnc ⊢
                    have HNN := hid hN
                    have hpos : (0 : Int) < (N : Int) := by omega
                    have hposn : 0 < N := by omega
                    clear h1 hl0 hn hN
                    go_upto_region 24 with (first
                      | (go_at_call 9; (with_reducible refine HPU.out.mono ?_); rintro e w5 ⟨rfl, ⟨S5, hS5⟩, ⟨l3, hp3⟩, hb5, hk5⟩; have HS5 := hid hS5; have HP5 := hid hp3; have HO5 := hid (hk5 pb _ HOz.out); have HB5 := hid (HBz.out.trans hb5); clear hS5 hp3 hb5 hk5)
                      | fail)
                    obtain ⟨w6, hw6⟩ : ∃ x, x = w5.alloc (.cells #[.int .u32 (it lz 0).1, .int .u8 (it lz 0).2.1, .int .u32 (it lz 0).2.2] 32) := ⟨_, rfl⟩
                    have hb6 : Below w5.heap.size w5 w6 := by rw [hw6]; exact (Below.refl _ _).alloc (Nat.le_refl _) _
                    have hg6 : w6.heap[w5.heap.size]? = some (.cells #[.int .u32 (it lz 0).1, .int .u8 (it lz 0).2.1, .int .u32 (it lz 0).2.2] 32 (0, 0)) := by rw [hw6]; exact heap_alloc_new w5 _
                    rw [← hw6]
                    have HP6 := hid (HP5.out.below hb6)
                    have HO6 := hid ((hb6.block pb (Array.getElem?_eq_some_iff.1 HO5.out).1).trans HO5.out)
                    have HB6 := hid (HB5.out.trans (hb6.mono HB5.out.size))
                    have q0 : w6.cell? ⟨w5.heap.size, 0, none⟩ = some (.int .u32 (it lz 0).1) := (cell_of_row _ _ _ _ _ _ hg6).trans rfl
                    have q1 : w6.cell? ⟨w5.heap.size, 1, none⟩ = some (.int .u8 (it lz 0).2.1) := (cell_of_row _ _ _ _ _ _ hg6).trans rfl
                    have q2 : w6.cell? ⟨w5.heap.size, 2, none⟩ = some (.int .u32 (it lz 0).2.2) := (cell_of_row _ _ _ _ _ _ hg6).trans rfl
                    have hx0 := HS5.out.below hb6
                    obtain ⟨x0, x1, x2⟩ : w6.cell? ⟨gu, ou, none⟩ = some (.int .u32 (it lz 0).1) ∧ w6.cell? ⟨gu, ou + 1, none⟩ = some (.int .u8 (it lz 0).2.1) ∧ w6.cell? ⟨gu, ou + 2, none⟩ = some (.int .u32 (it lz 0).2.2) := by
                      obtain ⟨ua, uc', e, e1, e2, h4⟩ := hx0
                      obtain ⟨gu', ou', e', -, -, c0, c1, c2⟩ := h4 0 (by have := HLN.out; omega)
                      subst e'
                      simp only [Value.slice.injEq, Option.some.injEq, Addr.mk.injEq] at e
                      obtain ⟨⟨rfl, rfl, -⟩, -, rfl⟩ := e
                      rw [Nat.zero_mul, Nat.add_zero] at c0 c1 c2
                      exact ⟨c0, c1, c2⟩
                    clear hw6 hb6 hg6 hx0
                    go_quiet (fail)
                    obtain ⟨w7, hw7⟩ : ∃ x, x = w6.drewN nq := ⟨_, rfl⟩
                    have hb7 : Below w6.heap.size w6 w7 := by rw [hw7]; exact ⟨rfl, rfl, rfl, Nat.le_refl _, fun _ _ => rfl⟩
                    rw [← hw7]
                    have HPz := hid (HP6.out.below hb7)
                    have HOz := hid ((hb7.block pb (Array.getElem?_eq_some_iff.1 HO6.out).1).trans HO6.out)
                    have HBz := hid (HB6.out.trans (hb7.mono HB6.out.size))
                    clear hw7 hb7 q0 q1 q2
                    clear x0 x1 x2
                    clear HLN HS5 HPU
                    obtain ⟨lz, hlz⟩ : ∃ lz, lz = l3 := ⟨_, rfl⟩
                    subst hlz
                    go_upto_region 40 with (fail)
                    rw [show N - 1 = n by have := HNN.out; omega]
                    obtain ⟨u9, hu9⟩ : ∃ u9, u9 = Value.slice (if uc = 1 then some ⟨gu, ou, none⟩ else some ⟨gu, ou + 3, none⟩) n (uc - 1) := ⟨_, rfl⟩
                    rw [← hu9] at HPz ⊢
                    clear hu9
                    obtain ⟨S, hS⟩ := HPz.out.rd
                    have HSM := hid (fun W (hb : Below w7.heap.size w7 W) => (HPz.out.below hb).same)
                    have HHA := hid (fun W (hb : Below w7.heap.size w7 W) => (HPz.out.below hb).has HKX.out)
                    have HFD := hid (fun W (hb : Below w7.heap.size w7 W) => find11_any W S _ _ x.1 (hS.below hb))
                    have HD := fnd_is lz x.1
                    have b1 : w7.drew.cell? ⟨pb, 1, none⟩ = some (.int .u32 x.1) := (cell_of_row w7 _ _ _ _ _ HOz.out).trans rfl
                    have HOC := hid (fun (W : World) (hb : Below w7.heap.size w7 W) => show W.cell? ⟨pb, 1, none⟩ = some (.int .u32 x.1) from (cell_of_row W _ _ _ _ _ ((hb.block pb (Array.getElem?_eq_some_iff.1 HOz.out).1).trans HOz.out)).trans rfl)
                    clear hS
                    go_region_held3 (fun w' => w'.cell? ⟨pb, 1, none⟩ = some (.int .u32 x.1)) (first | assumption | fail)
                      (first
                        | (go_at_call 13; (with_reducible refine (HSM.out _ (Below.refl _ _).drew).mono ?_); rintro e s1 ⟨rfl, hs1⟩; have HS1 := hid (show Below w7.heap.size w7 s1 from (Below.refl _ w7).drew.trans hs1); have c1 := HOC.out s1 HS1.out; clear hs1)
                        | (go_at_call 14; (with_reducible refine (HHA.out s1 HS1.out).mono ?_); rintro e s2 ⟨rfl, rfl⟩)
                        | (go_at_call 15; (with_reducible refine (HFD.out s1 HS1.out).mono ?_); rintro e s3 ⟨rfl, hs3⟩; have HS3 := hid (show Below w7.heap.size w7 s3 from HS1.out.trans (hs3.mono HS1.out.size)); have c3 := HOC.out s3 HS3.out; clear hs3)
                        | fail)
                    go_wp2_with fail
                    go_roundw
                    case rel => exact ⟨k + 1, lz, by go_num, HKL.out, by have := HK1.out; omega, (HPz.out.more (Nat.le_succ k)).below HS3.out, HBz.out.trans (HS3.out.mono HBz.out.size)⟩
                    case measure => have := HKL.out; simp [intOf]; omega
                · by_cases hd4 : d = 4
                  · as_aux_lemma =>
                    subst hd4
                    have HPU := hid (pp_remove y2 w.heap.size k hp _ _ x.1 HPz.out HKX.out (by have := HK1.out; omega))
                    go_upto_region 31 with (first
                      | (go_at_call 10; (with_reducible refine HPU.out.mono ?_); rintro e w5 ⟨r1, e1, rfl, hb5, hc5⟩; have HC5 := hid (hc5 w5 (Below.refl _ _)); have HB5 := hid (HBz.out.trans (hb5.mono HBz.out.size)); have HO5 := hid ((hb5.block pb (Array.getElem?_eq_some_iff.1 HOz.out).1).trans HOz.out); have hx5 := (hb5.block px (Array.getElem?_eq_some_iff.1 HXz.out).1).trans HXz.out; have HX5 := hid hx5; have q0 : w5.cell? ⟨px, 0, none⟩ = some (.int .u32 x.1) := (cell_of_row _ _ _ _ _ _ hx5).trans rfl; have q1 : w5.cell? ⟨px, 1, none⟩ = some (.int .u8 x.2.1) := (cell_of_row _ _ _ _ _ _ hx5).trans rfl; have q2 : w5.cell? ⟨px, 2, none⟩ = some (.int .u32 x.2.2) := (cell_of_row _ _ _ _ _ _ hx5).trans rfl; have r1 : w5.cell? ⟨pb, 1, none⟩ = some (.int .u32 x.1) := (cell_of_row _ _ _ _ _ _ HO5.out).trans rfl; have r2 : w5.cell? ⟨pb, 2, none⟩ = some (.int .u8 x.2.1) := (cell_of_row _ _ _ _ _ _ HO5.out).trans rfl; have r3 : w5.cell? ⟨pb, 3, none⟩ = some (.int .u32 x.2.2) := (cell_of_row _ _ _ _ _ _ HO5.out).trans rfl; clear hb5 hx5; clear hc5)
                      | fail)
                    go_upto_region 40 with (first
                      | (go_at_call 11; (with_reducible refine HC5.out.mono ?_); rintro e w6 ⟨rfl, ⟨lz, hp6⟩, hb6, hk6⟩; have HPz := hid hp6; have HOz := hid (hk6 pb _ HO5.out); have HBz := hid (HB5.out.trans hb6); clear hp6 hb6 hk6)
                      | fail)
                    obtain ⟨S, hS⟩ := HPz.out.rd
                    have HSM := hid (fun W (hb : Below w6.heap.size w6 W) => (HPz.out.below hb).same)
                    have HHA := hid (fun W (hb : Below w6.heap.size w6 W) => (HPz.out.below hb).has HKX.out)
                    have HFD := hid (fun W (hb : Below w6.heap.size w6 W) => find11_any W S _ _ x.1 (hS.below hb))
                    have HD := fnd_is lz x.1
                    have b1 : w6.drew.cell? ⟨pb, 1, none⟩ = some (.int .u32 x.1) := (cell_of_row w6 _ _ _ _ _ HOz.out).trans rfl
                    have HOC := hid (fun (W : World) (hb : Below w6.heap.size w6 W) => show W.cell? ⟨pb, 1, none⟩ = some (.int .u32 x.1) from (cell_of_row W _ _ _ _ _ ((hb.block pb (Array.getElem?_eq_some_iff.1 HOz.out).1).trans HOz.out)).trans rfl)
                    clear hS
                    go_region_held3 (fun w' => w'.cell? ⟨pb, 1, none⟩ = some (.int .u32 x.1)) (first | assumption | fail)
                      (first
                        | (go_at_call 13; (with_reducible refine (HSM.out _ (Below.refl _ _).drew).mono ?_); rintro e s1 ⟨rfl, hs1⟩; have HS1 := hid (show Below w6.heap.size w6 s1 from (Below.refl _ w6).drew.trans hs1); have c1 := HOC.out s1 HS1.out; clear hs1)
                        | (go_at_call 14; (with_reducible refine (HHA.out s1 HS1.out).mono ?_); rintro e s2 ⟨rfl, rfl⟩)
                        | (go_at_call 15; (with_reducible refine (HFD.out s1 HS1.out).mono ?_); rintro e s3 ⟨rfl, hs3⟩; have HS3 := hid (show Below w6.heap.size w6 s3 from HS1.out.trans (hs3.mono HS1.out.size)); have c3 := HOC.out s3 HS3.out; clear hs3)
                        | fail)
                    go_wp2_with fail
                    go_roundw
                    case rel => exact ⟨k + 1, lz, by go_num, HKL.out, by have := HK1.out; omega, (HPz.out.more (Nat.le_succ k)).below HS3.out, HBz.out.trans (HS3.out.mono HBz.out.size)⟩
                    case measure => have := HKL.out; simp [intOf]; omega
                  · by_cases hd5 : d = 5
                    · as_aux_lemma =>
                      subst hd5
                      cases hpl : (plc lz x.1).isSome with
                      | false =>
                        have h1 := pp_change_no y2 w.heap.size k hp _ _ x HPz.out HKX.out (by have := HK1.out; omega) hpl
                        unfold itv at h1
                        have HPU := hid h1
                        clear h1 hpl
                        go_upto_region 38 with (first
                          | (go_at_call 10; (with_reducible refine HPU.out.mono ?_); rintro e w5 ⟨r1, rfl, hb5, hc5⟩; have HC5 := hid (hc5 w5 (Below.refl _ _)); have HB5 := hid (HBz.out.trans (hb5.mono HBz.out.size)); have HO5 := hid ((hb5.block pb (Array.getElem?_eq_some_iff.1 HOz.out).1).trans HOz.out); have hx5 := (hb5.block px (Array.getElem?_eq_some_iff.1 HXz.out).1).trans HXz.out; have HX5 := hid hx5; have q0 : w5.cell? ⟨px, 0, none⟩ = some (.int .u32 x.1) := (cell_of_row _ _ _ _ _ _ hx5).trans rfl; have q1 : w5.cell? ⟨px, 1, none⟩ = some (.int .u8 x.2.1) := (cell_of_row _ _ _ _ _ _ hx5).trans rfl; have q2 : w5.cell? ⟨px, 2, none⟩ = some (.int .u32 x.2.2) := (cell_of_row _ _ _ _ _ _ hx5).trans rfl; have r1 : w5.cell? ⟨pb, 1, none⟩ = some (.int .u32 x.1) := (cell_of_row _ _ _ _ _ _ HO5.out).trans rfl; have r2 : w5.cell? ⟨pb, 2, none⟩ = some (.int .u8 x.2.1) := (cell_of_row _ _ _ _ _ _ HO5.out).trans rfl; have r3 : w5.cell? ⟨pb, 3, none⟩ = some (.int .u32 x.2.2) := (cell_of_row _ _ _ _ _ _ HO5.out).trans rfl; clear hb5 hx5; clear hc5)
                          | fail)
                        go_upto_region 40 with (first
                          | (go_at_call 12; (with_reducible refine HC5.out.mono ?_); rintro e w6 ⟨rfl, ⟨lz, hp6⟩, hb6, hk6⟩; have HPz := hid hp6; have HOz := hid (hk6 pb _ HO5.out); have HBz := hid (HB5.out.trans hb6); clear hp6 hb6 hk6)
                          | fail)
                        obtain ⟨S, hS⟩ := HPz.out.rd
                        have HSM := hid (fun W (hb : Below w6.heap.size w6 W) => (HPz.out.below hb).same)
                        have HHA := hid (fun W (hb : Below w6.heap.size w6 W) => (HPz.out.below hb).has HKX.out)
                        have HFD := hid (fun W (hb : Below w6.heap.size w6 W) => find11_any W S _ _ x.1 (hS.below hb))
                        have HD := fnd_is lz x.1
                        have b1 : w6.drew.cell? ⟨pb, 1, none⟩ = some (.int .u32 x.1) := (cell_of_row w6 _ _ _ _ _ HOz.out).trans rfl
                        have HOC := hid (fun (W : World) (hb : Below w6.heap.size w6 W) => show W.cell? ⟨pb, 1, none⟩ = some (.int .u32 x.1) from (cell_of_row W _ _ _ _ _ ((hb.block pb (Array.getElem?_eq_some_iff.1 HOz.out).1).trans HOz.out)).trans rfl)
                        clear hS
                        go_region_held3 (fun w' => w'.cell? ⟨pb, 1, none⟩ = some (.int .u32 x.1)) (first | assumption | fail)
                          (first
                            | (go_at_call 13; (with_reducible refine (HSM.out _ (Below.refl _ _).drew).mono ?_); rintro e s1 ⟨rfl, hs1⟩; have HS1 := hid (show Below w6.heap.size w6 s1 from (Below.refl _ w6).drew.trans hs1); have c1 := HOC.out s1 HS1.out; clear hs1)
                            | (go_at_call 14; (with_reducible refine (HHA.out s1 HS1.out).mono ?_); rintro e s2 ⟨rfl, rfl⟩)
                            | (go_at_call 15; (with_reducible refine (HFD.out s1 HS1.out).mono ?_); rintro e s3 ⟨rfl, hs3⟩; have HS3 := hid (show Below w6.heap.size w6 s3 from HS1.out.trans (hs3.mono HS1.out.size)); have c3 := HOC.out s3 HS3.out; clear hs3)
                            | fail)
                        go_wp2_with fail
                        go_roundw
                        case rel => exact ⟨k + 1, lz, by go_num, HKL.out, by have := HK1.out; omega, (HPz.out.more (Nat.le_succ k)).below HS3.out, HBz.out.trans (HS3.out.mono HBz.out.size)⟩
                        case measure => have := HKL.out; simp [intOf]; omega
                      | true =>
                        have h1 := pp_change_yes y2 w.heap.size k hp _ _ x HPz.out HKX.out (by have := HK1.out; omega) hpl
                        unfold itv at h1
                        have HPU := hid h1
                        clear h1 hpl
                        go_upto_region 36 with (first
                          | (go_at_call 10; (with_reducible refine HPU.out.mono ?_); rintro e w5 ⟨r1, rfl, hb5, hc5⟩; have HC5 := hid (hc5 w5 (Below.refl _ _)); have HB5 := hid (HBz.out.trans (hb5.mono HBz.out.size)); have HO5 := hid ((hb5.block pb (Array.getElem?_eq_some_iff.1 HOz.out).1).trans HOz.out); have hx5 := (hb5.block px (Array.getElem?_eq_some_iff.1 HXz.out).1).trans HXz.out; have HX5 := hid hx5; have q0 : w5.cell? ⟨px, 0, none⟩ = some (.int .u32 x.1) := (cell_of_row _ _ _ _ _ _ hx5).trans rfl; have q1 : w5.cell? ⟨px, 1, none⟩ = some (.int .u8 x.2.1) := (cell_of_row _ _ _ _ _ _ hx5).trans rfl; have q2 : w5.cell? ⟨px, 2, none⟩ = some (.int .u32 x.2.2) := (cell_of_row _ _ _ _ _ _ hx5).trans rfl; have r1 : w5.cell? ⟨pb, 1, none⟩ = some (.int .u32 x.1) := (cell_of_row _ _ _ _ _ _ HO5.out).trans rfl; have r2 : w5.cell? ⟨pb, 2, none⟩ = some (.int .u8 x.2.1) := (cell_of_row _ _ _ _ _ _ HO5.out).trans rfl; have r3 : w5.cell? ⟨pb, 3, none⟩ = some (.int .u32 x.2.2) := (cell_of_row _ _ _ _ _ _ HO5.out).trans rfl; clear hb5 hx5; clear hc5)
                          | fail)
                        clear q0 q1 q2
                        go_upto_region 38 with (first
                          | (go_at_call 7; (with_reducible refine HC5.out.mono ?_); rintro e w7 ⟨r7, rfl, hb5, hc5⟩; have HC7 := hid (hc5 w7 (Below.refl _ _)); have HB5 := hid (HB5.out.trans (hb5.mono HB5.out.size)); have HO5 := hid ((hb5.block pb (Array.getElem?_eq_some_iff.1 HO5.out).1).trans HO5.out); have hx5 := (hb5.block px (Array.getElem?_eq_some_iff.1 HX5.out).1).trans HX5.out; have HX5 := hid hx5; have q0 : w7.cell? ⟨px, 0, none⟩ = some (.int .u32 x.1) := (cell_of_row _ _ _ _ _ _ hx5).trans rfl; have q1 : w7.cell? ⟨px, 1, none⟩ = some (.int .u8 x.2.1) := (cell_of_row _ _ _ _ _ _ hx5).trans rfl; have q2 : w7.cell? ⟨px, 2, none⟩ = some (.int .u32 x.2.2) := (cell_of_row _ _ _ _ _ _ hx5).trans rfl; have r1 : w7.cell? ⟨pb, 1, none⟩ = some (.int .u32 x.1) := (cell_of_row _ _ _ _ _ _ HO5.out).trans rfl; have r2 : w7.cell? ⟨pb, 2, none⟩ = some (.int .u8 x.2.1) := (cell_of_row _ _ _ _ _ _ HO5.out).trans rfl; have r3 : w7.cell? ⟨pb, 3, none⟩ = some (.int .u32 x.2.2) := (cell_of_row _ _ _ _ _ _ HO5.out).trans rfl; clear hb5 hx5; clear hc5)
                          | fail)
                        go_upto_region 40 with (first
                          | (go_at_call 12; (with_reducible refine HC7.out.mono ?_); rintro e w6 ⟨rfl, ⟨lz, hp6⟩, hb6, hk6⟩; have HPz := hid hp6; have HOz := hid (hk6 pb _ HO5.out); have HBz := hid (HB5.out.trans hb6); clear hp6 hb6 hk6)
                          | fail)
                        obtain ⟨S, hS⟩ := HPz.out.rd
                        have HSM := hid (fun W (hb : Below w6.heap.size w6 W) => (HPz.out.below hb).same)
                        have HHA := hid (fun W (hb : Below w6.heap.size w6 W) => (HPz.out.below hb).has HKX.out)
                        have HFD := hid (fun W (hb : Below w6.heap.size w6 W) => find11_any W S _ _ x.1 (hS.below hb))
                        have HD := fnd_is lz x.1
                        have b1 : w6.drew.cell? ⟨pb, 1, none⟩ = some (.int .u32 x.1) := (cell_of_row w6 _ _ _ _ _ HOz.out).trans rfl
                        have HOC := hid (fun (W : World) (hb : Below w6.heap.size w6 W) => show W.cell? ⟨pb, 1, none⟩ = some (.int .u32 x.1) from (cell_of_row W _ _ _ _ _ ((hb.block pb (Array.getElem?_eq_some_iff.1 HOz.out).1).trans HOz.out)).trans rfl)
                        clear hS
                        go_region_held3 (fun w' => w'.cell? ⟨pb, 1, none⟩ = some (.int .u32 x.1)) (first | assumption | fail)
                          (first
                            | (go_at_call 13; (with_reducible refine (HSM.out _ (Below.refl _ _).drew).mono ?_); rintro e s1 ⟨rfl, hs1⟩; have HS1 := hid (show Below w6.heap.size w6 s1 from (Below.refl _ w6).drew.trans hs1); have c1 := HOC.out s1 HS1.out; clear hs1)
                            | (go_at_call 14; (with_reducible refine (HHA.out s1 HS1.out).mono ?_); rintro e s2 ⟨rfl, rfl⟩)
                            | (go_at_call 15; (with_reducible refine (HFD.out s1 HS1.out).mono ?_); rintro e s3 ⟨rfl, hs3⟩; have HS3 := hid (show Below w6.heap.size w6 s3 from HS1.out.trans (hs3.mono HS1.out.size)); have c3 := HOC.out s3 HS3.out; clear hs3)
                            | fail)
                        go_wp2_with fail
                        go_roundw
                        case rel => exact ⟨k + 1, lz, by go_num, HKL.out, by have := HK1.out; omega, (HPz.out.more (Nat.le_succ k)).below HS3.out, HBz.out.trans (HS3.out.mono HBz.out.size)⟩
                        case measure => have := HKL.out; simp [intOf]; omega
                    · go_upto_region 40 with (fail)
                      obtain ⟨S, hS⟩ := HPz.out.rd
                      have HSM := hid (fun W (hb : Below y2.heap.size y2 W) => (HPz.out.below hb).same)
                      have HHA := hid (fun W (hb : Below y2.heap.size y2 W) => (HPz.out.below hb).has HKX.out)
                      have HFD := hid (fun W (hb : Below y2.heap.size y2 W) => find11_any W S _ _ x.1 (hS.below hb))
                      have HD := fnd_is lz x.1
                      have b1 : y2.drew.cell? ⟨pb, 1, none⟩ = some (.int .u32 x.1) := (cell_of_row y2 _ _ _ _ _ HOz.out).trans rfl
                      have HOC := hid (fun (W : World) (hb : Below y2.heap.size y2 W) => show W.cell? ⟨pb, 1, none⟩ = some (.int .u32 x.1) from (cell_of_row W _ _ _ _ _ ((hb.block pb (Array.getElem?_eq_some_iff.1 HOz.out).1).trans HOz.out)).trans rfl)
                      clear hS
                      go_region_held3 (fun w' => w'.cell? ⟨pb, 1, none⟩ = some (.int .u32 x.1)) (first | assumption | fail)
                        (first
                          | (go_at_call 13; (with_reducible refine (HSM.out _ (Below.refl _ _).drew).mono ?_); rintro e s1 ⟨rfl, hs1⟩; have HS1 := hid (show Below y2.heap.size y2 s1 from (Below.refl _ y2).drew.trans hs1); have c1 := HOC.out s1 HS1.out; clear hs1)
                          | (go_at_call 14; (with_reducible refine (HHA.out s1 HS1.out).mono ?_); rintro e s2 ⟨rfl, rfl⟩)
                          | (go_at_call 15; (with_reducible refine (HFD.out s1 HS1.out).mono ?_); rintro e s3 ⟨rfl, hs3⟩; have HS3 := hid (show Below y2.heap.size y2 s3 from HS1.out.trans (hs3.mono HS1.out.size)); have c3 := HOC.out s3 HS3.out; clear hs3)
                          | fail)
                      go_wp2_with fail
                      go_roundw
                      case rel => exact ⟨k + 1, lz, by go_num, HKL.out, by have := HK1.out; omega, (HPz.out.more (Nat.le_succ k)).below HS3.out, HBz.out.trans (HS3.out.mono HBz.out.size)⟩
                      case measure => have := HKL.out; simp [intOf]; omega
      · have hki : ¬ (k : Int) < (len1 : Int) := by omega
        clear hB
        go_wp2_with fail
        go_ret
        exact ⟨rfl, HB.out⟩
  | true =>
    clear HPF
    have HPS := hid (show PP x2 w.heap.size true none (.slice none 0 0) [] 0 from PP.mknil)
    go_wp2_with fail
    go_loopw [6, 24] (fun u i wr => ∃ (k : Nat) (l : List It), i = .int .i64 k ∧ k ≤ len1 ∧ k ≤ 100 ∧ PP wr w.heap.size true none u l k ∧ Below w.heap.size w wr) (fun _ i _ => len1 - (intOf i).toNat)
    case atStart => exact ⟨0, [], rfl, Nat.zero_le _, Nat.zero_le _, HPS.out, HB2.out⟩
    case round =>
      obtain ⟨k, l, rfl, hk, hk1, hP, hB⟩ := hrel
      have HP := hid hP
      have HB := hid hB
      clear hP
      by_cases hlt : k < len1
      · obtain ⟨gb, off, d, x, rfl, hkx, z0, z1, z2, z3⟩ := HOP.out.at hB hlt
        have HKX := hid hkx
        have HKL := hid hlt
        have hki : (k : Int) < (len1 : Int) := by omega
        have hw1 := w64t k (by omega)
        obtain ⟨y1, hy1⟩ : ∃ y, y = wr.alloc (.cells #[.int .u8 d, .int .u32 x.1, .int .u8 x.2.1, .int .u32 x.2.2] 31) := ⟨_, rfl⟩
        have hby : Below wr.heap.size wr y1 := by rw [hy1]; exact (Below.refl _ _).alloc (Nat.le_refl _) _
        have hbx : y1.heap[wr.heap.size]? = some (.cells #[.int .u8 d, .int .u32 x.1, .int .u8 x.2.1, .int .u32 x.2.2] 31 (0, 0)) := by rw [hy1]; exact heap_alloc_new wr _
        obtain ⟨pb, hpb⟩ : ∃ p, p = wr.heap.size := ⟨_, rfl⟩
        rw [← hpb] at hbx
        have HBX := hid hbx
        have HY1 := hid hby
        have HBY1 := hid (hB.trans (hby.mono hB.size))
        have o0 : y1.cell? ⟨pb, 0, none⟩ = some (.int .u8 d) := (cell_of_row _ _ _ _ _ _ hbx).trans rfl
        have o1 : y1.cell? ⟨pb, 1, none⟩ = some (.int .u32 x.1) := (cell_of_row _ _ _ _ _ _ hbx).trans rfl
        have o2 : y1.cell? ⟨pb, 2, none⟩ = some (.int .u8 x.2.1) := (cell_of_row _ _ _ _ _ _ hbx).trans rfl
        have o3 : y1.cell? ⟨pb, 3, none⟩ = some (.int .u32 x.2.2) := (cell_of_row _ _ _ _ _ _ hbx).trans rfl
        clear hby hbx hB hkx hlt
        go_upto_region 10 with (fail)
        rw [← hy1, ← hpb]
        clear hy1 hpb z0 z1 z2 z3
        by_cases h100 : k = 100
        · have d1 : decide ((k : Int) ≥ 100) = true := decide_eq_true (by omega)
          have d2 : decide ((100 : Int) ≤ (k : Int)) = true := decide_eq_true (by omega)
          clear h100 hk1 hk
          go_wp2_with fail
          go_ret
          exact ⟨rfl, HBY1.out⟩
        · have d1 : decide ((k : Int) ≥ 100) = false := decide_eq_false (by omega)
          have d2 : decide ((100 : Int) ≤ (k : Int)) = false := decide_eq_false (by omega)
          have HK1 := hid (show k < 100 by omega)
          clear h100 hk1 hk
          obtain ⟨y2, hy2⟩ : ∃ y, y = y1.alloc (.cells #[.int .u32 x.1, .int .u8 x.2.1, .int .u32 x.2.2] 32) := ⟨_, rfl⟩
          have hb2 : Below y1.heap.size y1 y2 := by rw [hy2]; exact (Below.refl _ _).alloc (Nat.le_refl _) _
          have hbx2 : y2.heap[y1.heap.size]? = some (.cells #[.int .u32 x.1, .int .u8 x.2.1, .int .u32 x.2.2] 32 (0, 0)) := by rw [hy2]; exact heap_alloc_new y1 _
          have HOz := hid ((hb2.block pb (Array.getElem?_eq_some_iff.1 HBX.out).1).trans HBX.out)
          have HXz := hid hbx2
          have HBz := hid (HBY1.out.trans (hb2.mono HBY1.out.size))
          have HPz := hid ((HP.out.below HY1.out).below hb2)
          have v0 : y2.cell? ⟨pb, 0, none⟩ = some (.int .u8 d) := (cell_of_row _ _ _ _ _ _ HOz.out).trans rfl
          have v1 : y2.cell? ⟨pb, 1, none⟩ = some (.int .u32 x.1) := (cell_of_row _ _ _ _ _ _ HOz.out).trans rfl
          have v2 : y2.cell? ⟨pb, 2, none⟩ = some (.int .u8 x.2.1) := (cell_of_row _ _ _ _ _ _ HOz.out).trans rfl
          have v3 : y2.cell? ⟨pb, 3, none⟩ = some (.int .u32 x.2.2) := (cell_of_row _ _ _ _ _ _ HOz.out).trans rfl
          obtain ⟨px, hpx⟩ : ∃ p, p = y1.heap.size := ⟨_, rfl⟩
          clear hb2 hbx2
          go_upto_region 12 with (fail)
          rw [← hy2, ← hpx]
          rw [← hpx] at HXz
          clear hy2 hpx o0 o1 o2 o3
          obtain ⟨lz, hlz⟩ : ∃ lz, lz = l := ⟨_, rfl⟩
          subst hlz
          by_cases hd0 : d = 0
          · as_aux_lemma =>
            subst hd0
            obtain ⟨-, hl0, hrd⟩ := HPz.out.nil
            subst hl0
            have h1 := rpush_yes y2 _ _ [] x hrd (by simp) rfl
            unfold itv at h1
            have HPU := hid h1
            have h2 := fun W => push11_nil W x
            unfold itv at h2
            have HPV := hid h2
            clear h1 h2 hrd
            go_upto_region 20 with (first
              | (go_at_call 7; (with_reducible refine HPU.out.mono ?_); rintro e w5 ⟨r1, rfl, l5, -, -, hb5⟩; have HB5 := hid (HBz.out.trans (hb5.mono HBz.out.size)); have HO5 := hid ((hb5.block pb (Array.getElem?_eq_some_iff.1 HOz.out).1).trans HOz.out); have hx5 := (hb5.block px (Array.getElem?_eq_some_iff.1 HXz.out).1).trans HXz.out; have HX5 := hid hx5; have q0 : w5.cell? ⟨px, 0, none⟩ = some (.int .u32 x.1) := (cell_of_row _ _ _ _ _ _ hx5).trans rfl; have q1 : w5.cell? ⟨px, 1, none⟩ = some (.int .u8 x.2.1) := (cell_of_row _ _ _ _ _ _ hx5).trans rfl; have q2 : w5.cell? ⟨px, 2, none⟩ = some (.int .u32 x.2.2) := (cell_of_row _ _ _ _ _ _ hx5).trans rfl; have r1 : w5.cell? ⟨pb, 1, none⟩ = some (.int .u32 x.1) := (cell_of_row _ _ _ _ _ _ HO5.out).trans rfl; have r2 : w5.cell? ⟨pb, 2, none⟩ = some (.int .u8 x.2.1) := (cell_of_row _ _ _ _ _ _ HO5.out).trans rfl; have r3 : w5.cell? ⟨pb, 3, none⟩ = some (.int .u32 x.2.2) := (cell_of_row _ _ _ _ _ _ HO5.out).trans rfl; clear hb5 hx5)
              | fail)
            go_upto_region 40 with (first
              | (go_at_call 8; (with_reducible refine (HPV.out _).mono ?_); rintro e w6 ⟨rfl, hb6⟩; have HPz := hid (show PP w6 w.heap.size true none (.slice none 0 0) [] (k + 1) from PP.mknil); have HOz := hid ((hb6.block pb (Array.getElem?_eq_some_iff.1 HO5.out).1).trans HO5.out); have HBz := hid (HB5.out.trans (hb6.mono HB5.out.size)); clear hb6)
              | fail)
            obtain ⟨lz, hlz⟩ : ∃ lz : List It, lz = [] := ⟨_, rfl⟩
            rw [← hlz] at HPz
            clear hlz
            obtain ⟨S, hS⟩ := HPz.out.rd
            have HSM := hid (fun W (hb : Below w6.heap.size w6 W) => (HPz.out.below hb).same)
            have HHA := hid (fun W (hb : Below w6.heap.size w6 W) => (HPz.out.below hb).has HKX.out)
            have HFD := hid (fun W (hb : Below w6.heap.size w6 W) => find11_any W S _ _ x.1 (hS.below hb))
            have HD := fnd_is lz x.1
            have b1 : w6.drew.cell? ⟨pb, 1, none⟩ = some (.int .u32 x.1) := (cell_of_row w6 _ _ _ _ _ HOz.out).trans rfl
            have HOC := hid (fun (W : World) (hb : Below w6.heap.size w6 W) => show W.cell? ⟨pb, 1, none⟩ = some (.int .u32 x.1) from (cell_of_row W _ _ _ _ _ ((hb.block pb (Array.getElem?_eq_some_iff.1 HOz.out).1).trans HOz.out)).trans rfl)
            clear hS
            go_region_held3 (fun w' => w'.cell? ⟨pb, 1, none⟩ = some (.int .u32 x.1)) (first | assumption | fail)
              (first
                | (go_at_call 13; (with_reducible refine (HSM.out _ (Below.refl _ _).drew).mono ?_); rintro e s1 ⟨rfl, hs1⟩; have HS1 := hid (show Below w6.heap.size w6 s1 from (Below.refl _ w6).drew.trans hs1); have c1 := HOC.out s1 HS1.out; clear hs1)
                | (go_at_call 14; (with_reducible refine (HHA.out s1 HS1.out).mono ?_); rintro e s2 ⟨rfl, rfl⟩)
                | (go_at_call 15; (with_reducible refine (HFD.out s1 HS1.out).mono ?_); rintro e s3 ⟨rfl, hs3⟩; have HS3 := hid (show Below w6.heap.size w6 s3 from HS1.out.trans (hs3.mono HS1.out.size)); have c3 := HOC.out s3 HS3.out; clear hs3)
                | fail)
            go_wp2_with fail
            go_roundw
            case rel => exact ⟨k + 1, lz, by go_num, HKL.out, by have := HK1.out; omega, HPz.out.below HS3.out, HBz.out.trans (HS3.out.mono HBz.out.size)⟩
            case measure => have := HKL.out; simp [intOf]; omega
          · by_cases hd1 : d = 1
            · as_aux_lemma =>
              subst hd1
              obtain ⟨-, hl0, hrd⟩ := HPz.out.nil
              subst hl0
              have h1 := rpush_yes y2 _ _ [] x hrd (by simp) rfl
              unfold itv at h1
              have HPU := hid h1
              have h2 := fun W => push11_nil W x
              unfold itv at h2
              have HPV := hid h2
              clear h1 h2 hrd
              go_upto_region 20 with (first
                | (go_at_call 7; (with_reducible refine HPU.out.mono ?_); rintro e w5 ⟨r1, rfl, l5, -, -, hb5⟩; have HB5 := hid (HBz.out.trans (hb5.mono HBz.out.size)); have HO5 := hid ((hb5.block pb (Array.getElem?_eq_some_iff.1 HOz.out).1).trans HOz.out); have hx5 := (hb5.block px (Array.getElem?_eq_some_iff.1 HXz.out).1).trans HXz.out; have HX5 := hid hx5; have q0 : w5.cell? ⟨px, 0, none⟩ = some (.int .u32 x.1) := (cell_of_row _ _ _ _ _ _ hx5).trans rfl; have q1 : w5.cell? ⟨px, 1, none⟩ = some (.int .u8 x.2.1) := (cell_of_row _ _ _ _ _ _ hx5).trans rfl; have q2 : w5.cell? ⟨px, 2, none⟩ = some (.int .u32 x.2.2) := (cell_of_row _ _ _ _ _ _ hx5).trans rfl; have r1 : w5.cell? ⟨pb, 1, none⟩ = some (.int .u32 x.1) := (cell_of_row _ _ _ _ _ _ HO5.out).trans rfl; have r2 : w5.cell? ⟨pb, 2, none⟩ = some (.int .u8 x.2.1) := (cell_of_row _ _ _ _ _ _ HO5.out).trans rfl; have r3 : w5.cell? ⟨pb, 3, none⟩ = some (.int .u32 x.2.2) := (cell_of_row _ _ _ _ _ _ HO5.out).trans rfl; clear hb5 hx5)
                | fail)
              go_upto_region 40 with (first
                | (go_at_call 8; (with_reducible refine (HPV.out _).mono ?_); rintro e w6 ⟨rfl, hb6⟩; have HPz := hid (show PP w6 w.heap.size true none (.slice none 0 0) [] (k + 1) from PP.mknil); have HOz := hid ((hb6.block pb (Array.getElem?_eq_some_iff.1 HO5.out).1).trans HO5.out); have HBz := hid (HB5.out.trans (hb6.mono HB5.out.size)); clear hb6)
                | fail)
              obtain ⟨lz, hlz⟩ : ∃ lz : List It, lz = [] := ⟨_, rfl⟩
              rw [← hlz] at HPz
              clear hlz
              obtain ⟨S, hS⟩ := HPz.out.rd
              have HSM := hid (fun W (hb : Below w6.heap.size w6 W) => (HPz.out.below hb).same)
              have HHA := hid (fun W (hb : Below w6.heap.size w6 W) => (HPz.out.below hb).has HKX.out)
              have HFD := hid (fun W (hb : Below w6.heap.size w6 W) => find11_any W S _ _ x.1 (hS.below hb))
              have HD := fnd_is lz x.1
              have b1 : w6.drew.cell? ⟨pb, 1, none⟩ = some (.int .u32 x.1) := (cell_of_row w6 _ _ _ _ _ HOz.out).trans rfl
              have HOC := hid (fun (W : World) (hb : Below w6.heap.size w6 W) => show W.cell? ⟨pb, 1, none⟩ = some (.int .u32 x.1) from (cell_of_row W _ _ _ _ _ ((hb.block pb (Array.getElem?_eq_some_iff.1 HOz.out).1).trans HOz.out)).trans rfl)
              clear hS
              go_region_held3 (fun w' => w'.cell? ⟨pb, 1, none⟩ = some (.int .u32 x.1)) (first | assumption | fail)
                (first
                  | (go_at_call 13; (with_reducible refine (HSM.out _ (Below.refl _ _).drew).mono ?_); rintro e s1 ⟨rfl, hs1⟩; have HS1 := hid (show Below w6.heap.size w6 s1 from (Below.refl _ w6).drew.trans hs1); have c1 := HOC.out s1 HS1.out; clear hs1)
                  | (go_at_call 14; (with_reducible refine (HHA.out s1 HS1.out).mono ?_); rintro e s2 ⟨rfl, rfl⟩)
                  | (go_at_call 15; (with_reducible refine (HFD.out s1 HS1.out).mono ?_); rintro e s3 ⟨rfl, hs3⟩; have HS3 := hid (show Below w6.heap.size w6 s3 from HS1.out.trans (hs3.mono HS1.out.size)); have c3 := HOC.out s3 HS3.out; clear hs3)
                  | fail)
              go_wp2_with fail
              go_roundw
              case rel => exact ⟨k + 1, lz, by go_num, HKL.out, by have := HK1.out; omega, HPz.out.below HS3.out, HBz.out.trans (HS3.out.mono HBz.out.size)⟩
              case measure => have := HKL.out; simp [intOf]; omega
            · by_cases hd2 : d = 2
              · as_aux_lemma =>
                subst hd2
                obtain ⟨-, hl0, hrd⟩ := HPz.out.nil
                subst hl0
                have h1 := rpush_yes y2 _ _ [] x hrd (by simp) rfl
                unfold itv at h1
                have HPU := hid h1
                have h2 := fun W => push11_nil W x
                unfold itv at h2
                have HPV := hid h2
                clear h1 h2 hrd
                go_upto_region 20 with (first
                  | (go_at_call 7; (with_reducible refine HPU.out.mono ?_); rintro e w5 ⟨r1, rfl, l5, -, -, hb5⟩; have HB5 := hid (HBz.out.trans (hb5.mono HBz.out.size)); have HO5 := hid ((hb5.block pb (Array.getElem?_eq_some_iff.1 HOz.out).1).trans HOz.out); have hx5 := (hb5.block px (Array.getElem?_eq_some_iff.1 HXz.out).1).trans HXz.out; have HX5 := hid hx5; have q0 : w5.cell? ⟨px, 0, none⟩ = some (.int .u32 x.1) := (cell_of_row _ _ _ _ _ _ hx5).trans rfl; have q1 : w5.cell? ⟨px, 1, none⟩ = some (.int .u8 x.2.1) := (cell_of_row _ _ _ _ _ _ hx5).trans rfl; have q2 : w5.cell? ⟨px, 2, none⟩ = some (.int .u32 x.2.2) := (cell_of_row _ _ _ _ _ _ hx5).trans rfl; have r1 : w5.cell? ⟨pb, 1, none⟩ = some (.int .u32 x.1) := (cell_of_row _ _ _ _ _ _ HO5.out).trans rfl; have r2 : w5.cell? ⟨pb, 2, none⟩ = some (.int .u8 x.2.1) := (cell_of_row _ _ _ _ _ _ HO5.out).trans rfl; have r3 : w5.cell? ⟨pb, 3, none⟩ = some (.int .u32 x.2.2) := (cell_of_row _ _ _ _ _ _ HO5.out).trans rfl; clear hb5 hx5)
                  | fail)
                go_upto_region 40 with (first
                  | (go_at_call 8; (with_reducible refine (HPV.out _).mono ?_); rintro e w6 ⟨rfl, hb6⟩; have HPz := hid (show PP w6 w.heap.size true none (.slice none 0 0) [] (k + 1) from PP.mknil); have HOz := hid ((hb6.block pb (Array.getElem?_eq_some_iff.1 HO5.out).1).trans HO5.out); have HBz := hid (HB5.out.trans (hb6.mono HB5.out.size)); clear hb6)
                  | fail)
                obtain ⟨lz, hlz⟩ : ∃ lz : List It, lz = [] := ⟨_, rfl⟩
                rw [← hlz] at HPz
                clear hlz
                obtain ⟨S, hS⟩ := HPz.out.rd
                have HSM := hid (fun W (hb : Below w6.heap.size w6 W) => (HPz.out.below hb).same)
                have HHA := hid (fun W (hb : Below w6.heap.size w6 W) => (HPz.out.below hb).has HKX.out)
                have HFD := hid (fun W (hb : Below w6.heap.size w6 W) => find11_any W S _ _ x.1 (hS.below hb))
                have HD := fnd_is lz x.1
                have b1 : w6.drew.cell? ⟨pb, 1, none⟩ = some (.int .u32 x.1) := (cell_of_row w6 _ _ _ _ _ HOz.out).trans rfl
                have HOC := hid (fun (W : World) (hb : Below w6.heap.size w6 W) => show W.cell? ⟨pb, 1, none⟩ = some (.int .u32 x.1) from (cell_of_row W _ _ _ _ _ ((hb.block pb (Array.getElem?_eq_some_iff.1 HOz.out).1).trans HOz.out)).trans rfl)
                clear hS
                go_region_held3 (fun w' => w'.cell? ⟨pb, 1, none⟩ = some (.int .u32 x.1)) (first | assumption | fail)
                  (first
                    | (go_at_call 13; (with_reducible refine (HSM.out _ (Below.refl _ _).drew).mono ?_); rintro e s1 ⟨rfl, hs1⟩; have HS1 := hid (show Below w6.heap.size w6 s1 from (Below.refl _ w6).drew.trans hs1); have c1 := HOC.out s1 HS1.out; clear hs1)
                    | (go_at_call 14; (with_reducible refine (HHA.out s1 HS1.out).mono ?_); rintro e s2 ⟨rfl, rfl⟩)
                    | (go_at_call 15; (with_reducible refine (HFD.out s1 HS1.out).mono ?_); rintro e s3 ⟨rfl, hs3⟩; have HS3 := hid (show Below w6.heap.size w6 s3 from HS1.out.trans (hs3.mono HS1.out.size)); have c3 := HOC.out s3 HS3.out; clear hs3)
                    | fail)
                go_wp2_with fail
                go_roundw
                case rel => exact ⟨k + 1, lz, by go_num, HKL.out, by have := HK1.out; omega, HPz.out.below HS3.out, HBz.out.trans (HS3.out.mono HBz.out.size)⟩
                case measure => have := HKL.out; simp [intOf]; omega
              · by_cases hd3 : d = 3
                · as_aux_lemma =>
                  subst hd3
                  obtain ⟨-, hl0, hrd⟩ := HPz.out.nil
                  subst hl0
                  clear hrd
                  obtain ⟨S0, ua, uc, hu, -⟩ := HPz.out.rd
                  replace hu : _ = Value.slice ua 0 uc := hu
                  subst hu
                  have h1 := pp_pop0 y2 w.heap.size k true none _ HPz.out
                  unfold itv at h1
                  have HPU := hid h1
                  clear h1
                  go_upto_region 24 with (first
                    | (go_at_call 9; (with_reducible refine HPU.out.mono ?_); rintro e w5 ⟨rfl, hb5⟩; have HP5 := hid (HPz.out.below hb5); have HB5 := hid (HBz.out.trans (hb5.mono HBz.out.size)); have HO5 := hid ((hb5.block pb (Array.getElem?_eq_some_iff.1 HOz.out).1).trans HOz.out); have hx5 := (hb5.block px (Array.getElem?_eq_some_iff.1 HXz.out).1).trans HXz.out; have HX5 := hid hx5; have q0 : w5.cell? ⟨px, 0, none⟩ = some (.int .u32 x.1) := (cell_of_row _ _ _ _ _ _ hx5).trans rfl; have q1 : w5.cell? ⟨px, 1, none⟩ = some (.int .u8 x.2.1) := (cell_of_row _ _ _ _ _ _ hx5).trans rfl; have q2 : w5.cell? ⟨px, 2, none⟩ = some (.int .u32 x.2.2) := (cell_of_row _ _ _ _ _ _ hx5).trans rfl; have r1 : w5.cell? ⟨pb, 1, none⟩ = some (.int .u32 x.1) := (cell_of_row _ _ _ _ _ _ HO5.out).trans rfl; have r2 : w5.cell? ⟨pb, 2, none⟩ = some (.int .u8 x.2.1) := (cell_of_row _ _ _ _ _ _ HO5.out).trans rfl; have r3 : w5.cell? ⟨pb, 3, none⟩ = some (.int .u32 x.2.2) := (cell_of_row _ _ _ _ _ _ HO5.out).trans rfl; clear hb5 hx5)
                    | fail)
                  clear q0 q1 q2 r1 r2 r3
                  obtain ⟨w6, hw6⟩ : ∃ x, x = w5.alloc (.cells #[.int .u32 0, .int .u8 0, .int .u32 0] 32) := ⟨_, rfl⟩
                  have hb6 : Below w5.heap.size w5 w6 := by rw [hw6]; exact (Below.refl _ _).alloc (Nat.le_refl _) _
                  have hg6 : w6.heap[w5.heap.size]? = some (.cells #[.int .u32 0, .int .u8 0, .int .u32 0] 32 (0, 0)) := by rw [hw6]; exact heap_alloc_new w5 _
                  rw [← hw6]
                  have HP6 := hid (HP5.out.below hb6)
                  have HO6 := hid ((hb6.block pb (Array.getElem?_eq_some_iff.1 HO5.out).1).trans HO5.out)
                  have HB6 := hid (HB5.out.trans (hb6.mono HB5.out.size))
                  have q0 : w6.cell? ⟨w5.heap.size, 0, none⟩ = some (.int .u32 0) := (cell_of_row _ _ _ _ _ _ hg6).trans rfl
                  have q1 : w6.cell? ⟨w5.heap.size, 1, none⟩ = some (.int .u8 0) := (cell_of_row _ _ _ _ _ _ hg6).trans rfl
                  have q2 : w6.cell? ⟨w5.heap.size, 2, none⟩ = some (.int .u32 0) := (cell_of_row _ _ _ _ _ _ hg6).trans rfl
                  clear hw6 hb6 hg6
                  go_quiet (fail)
                  obtain ⟨w7, hw7⟩ : ∃ x, x = w6.drewN nq := ⟨_, rfl⟩
                  have hb7 : Below w6.heap.size w6 w7 := by rw [hw7]; exact ⟨rfl, rfl, rfl, Nat.le_refl _, fun _ _ => rfl⟩
                  rw [← hw7]
                  have HPz := hid (HP6.out.below hb7)
                  have HOz := hid ((hb7.block pb (Array.getElem?_eq_some_iff.1 HO6.out).1).trans HO6.out)
                  have HBz := hid (HB6.out.trans (hb7.mono HB6.out.size))
                  clear hw7 hb7 q0 q1 q2
                  go_upto_region 40 with (fail)
                  obtain ⟨lz, hlz⟩ : ∃ lz : List It, lz = [] := ⟨_, rfl⟩
                  rw [← hlz] at HPz
                  clear hlz
                  obtain ⟨S, hS⟩ := HPz.out.rd
                  have HSM := hid (fun W (hb : Below w7.heap.size w7 W) => (HPz.out.below hb).same)
                  have HHA := hid (fun W (hb : Below w7.heap.size w7 W) => (HPz.out.below hb).has HKX.out)
                  have HFD := hid (fun W (hb : Below w7.heap.size w7 W) => find11_any W S _ _ x.1 (hS.below hb))
                  have HD := fnd_is lz x.1
                  have b1 : w7.drew.cell? ⟨pb, 1, none⟩ = some (.int .u32 x.1) := (cell_of_row w7 _ _ _ _ _ HOz.out).trans rfl
                  have HOC := hid (fun (W : World) (hb : Below w7.heap.size w7 W) => show W.cell? ⟨pb, 1, none⟩ = some (.int .u32 x.1) from (cell_of_row W _ _ _ _ _ ((hb.block pb (Array.getElem?_eq_some_iff.1 HOz.out).1).trans HOz.out)).trans rfl)
                  clear hS
                  go_region_held3 (fun w' => w'.cell? ⟨pb, 1, none⟩ = some (.int .u32 x.1)) (first | assumption | fail)
                    (first
                      | (go_at_call 13; (with_reducible refine (HSM.out _ (Below.refl _ _).drew).mono ?_); rintro e s1 ⟨rfl, hs1⟩; have HS1 := hid (show Below w7.heap.size w7 s1 from (Below.refl _ w7).drew.trans hs1); have c1 := HOC.out s1 HS1.out; clear hs1)
                      | (go_at_call 14; (with_reducible refine (HHA.out s1 HS1.out).mono ?_); rintro e s2 ⟨rfl, rfl⟩)
                      | (go_at_call 15; (with_reducible refine (HFD.out s1 HS1.out).mono ?_); rintro e s3 ⟨rfl, hs3⟩; have HS3 := hid (show Below w7.heap.size w7 s3 from HS1.out.trans (hs3.mono HS1.out.size)); have c3 := HOC.out s3 HS3.out; clear hs3)
                      | fail)
                  go_wp2_with fail
                  go_roundw
                  case rel => exact ⟨k + 1, lz, by go_num, HKL.out, by have := HK1.out; omega, (HPz.out.more (Nat.le_succ k)).below HS3.out, HBz.out.trans (HS3.out.mono HBz.out.size)⟩
                  case measure => have := HKL.out; simp [intOf]; omega
                · by_cases hd4 : d = 4
                  · as_aux_lemma =>
                    subst hd4
                    obtain ⟨-, hl0, hrd⟩ := HPz.out.nil
                    subst hl0
                    have HPU := hid (rremove_no y2 _ _ [] x.1 hrd rfl)
                    clear hrd
                    go_upto_region 31 with (first
                      | (go_at_call 10; (with_reducible refine HPU.out.mono ?_); rintro e w5 ⟨rfl, hb5⟩; have HP5 := hid (HPz.out.below hb5); have HB5 := hid (HBz.out.trans (hb5.mono HBz.out.size)); have HO5 := hid ((hb5.block pb (Array.getElem?_eq_some_iff.1 HOz.out).1).trans HOz.out); have hx5 := (hb5.block px (Array.getElem?_eq_some_iff.1 HXz.out).1).trans HXz.out; have HX5 := hid hx5; have q0 : w5.cell? ⟨px, 0, none⟩ = some (.int .u32 x.1) := (cell_of_row _ _ _ _ _ _ hx5).trans rfl; have q1 : w5.cell? ⟨px, 1, none⟩ = some (.int .u8 x.2.1) := (cell_of_row _ _ _ _ _ _ hx5).trans rfl; have q2 : w5.cell? ⟨px, 2, none⟩ = some (.int .u32 x.2.2) := (cell_of_row _ _ _ _ _ _ hx5).trans rfl; have r1 : w5.cell? ⟨pb, 1, none⟩ = some (.int .u32 x.1) := (cell_of_row _ _ _ _ _ _ HO5.out).trans rfl; have r2 : w5.cell? ⟨pb, 2, none⟩ = some (.int .u8 x.2.1) := (cell_of_row _ _ _ _ _ _ HO5.out).trans rfl; have r3 : w5.cell? ⟨pb, 3, none⟩ = some (.int .u32 x.2.2) := (cell_of_row _ _ _ _ _ _ HO5.out).trans rfl; clear hb5 hx5)
                      | fail)
                    go_upto_region 40 with (first
                      | (go_at_call 11; (with_reducible refine (remove11_nil _ _).mono ?_); rintro e w6 ⟨rfl, rfl⟩; have HPz := HP5; have HOz := HO5; have HBz := HB5)
                      | fail)
                    obtain ⟨lz, hlz⟩ : ∃ lz : List It, lz = [] := ⟨_, rfl⟩
                    rw [← hlz] at HPz
                    clear hlz
                    obtain ⟨S, hS⟩ := HPz.out.rd
                    have HSM := hid (fun W (hb : Below w5.heap.size w5 W) => (HPz.out.below hb).same)
                    have HHA := hid (fun W (hb : Below w5.heap.size w5 W) => (HPz.out.below hb).has HKX.out)
                    have HFD := hid (fun W (hb : Below w5.heap.size w5 W) => find11_any W S _ _ x.1 (hS.below hb))
                    have HD := fnd_is lz x.1
                    have b1 : w5.drew.cell? ⟨pb, 1, none⟩ = some (.int .u32 x.1) := (cell_of_row w5 _ _ _ _ _ HOz.out).trans rfl
                    have HOC := hid (fun (W : World) (hb : Below w5.heap.size w5 W) => show W.cell? ⟨pb, 1, none⟩ = some (.int .u32 x.1) from (cell_of_row W _ _ _ _ _ ((hb.block pb (Array.getElem?_eq_some_iff.1 HOz.out).1).trans HOz.out)).trans rfl)
                    clear hS
                    go_region_held3 (fun w' => w'.cell? ⟨pb, 1, none⟩ = some (.int .u32 x.1)) (first | assumption | fail)
                      (first
                        | (go_at_call 13; (with_reducible refine (HSM.out _ (Below.refl _ _).drew).mono ?_); rintro e s1 ⟨rfl, hs1⟩; have HS1 := hid (show Below w5.heap.size w5 s1 from (Below.refl _ w5).drew.trans hs1); have c1 := HOC.out s1 HS1.out; clear hs1)
                        | (go_at_call 14; (with_reducible refine (HHA.out s1 HS1.out).mono ?_); rintro e s2 ⟨rfl, rfl⟩)
                        | (go_at_call 15; (with_reducible refine (HFD.out s1 HS1.out).mono ?_); rintro e s3 ⟨rfl, hs3⟩; have HS3 := hid (show Below w5.heap.size w5 s3 from HS1.out.trans (hs3.mono HS1.out.size)); have c3 := HOC.out s3 HS3.out; clear hs3)
                        | fail)
                    go_wp2_with fail
                    go_roundw
                    case rel => exact ⟨k + 1, lz, by go_num, HKL.out, by have := HK1.out; omega, (HPz.out.more (Nat.le_succ k)).below HS3.out, HBz.out.trans (HS3.out.mono HBz.out.size)⟩
                    case measure => have := HKL.out; simp [intOf]; omega
                  · by_cases hd5 : d = 5
                    · as_aux_lemma =>
                      subst hd5
                      obtain ⟨-, hl0, hrd⟩ := HPz.out.nil
                      subst hl0
                      have HPU := hid (rremove_no y2 _ _ [] x.1 hrd rfl)
                      have h2 := fun W => change11_nil W x
                      unfold itv at h2
                      have HPV := hid h2
                      clear h2 hrd
                      go_upto_region 38 with (first
                        | (go_at_call 10; (with_reducible refine HPU.out.mono ?_); rintro e w5 ⟨rfl, hb5⟩; have HP5 := hid (HPz.out.below hb5); have HB5 := hid (HBz.out.trans (hb5.mono HBz.out.size)); have HO5 := hid ((hb5.block pb (Array.getElem?_eq_some_iff.1 HOz.out).1).trans HOz.out); have hx5 := (hb5.block px (Array.getElem?_eq_some_iff.1 HXz.out).1).trans HXz.out; have HX5 := hid hx5; have q0 : w5.cell? ⟨px, 0, none⟩ = some (.int .u32 x.1) := (cell_of_row _ _ _ _ _ _ hx5).trans rfl; have q1 : w5.cell? ⟨px, 1, none⟩ = some (.int .u8 x.2.1) := (cell_of_row _ _ _ _ _ _ hx5).trans rfl; have q2 : w5.cell? ⟨px, 2, none⟩ = some (.int .u32 x.2.2) := (cell_of_row _ _ _ _ _ _ hx5).trans rfl; have r1 : w5.cell? ⟨pb, 1, none⟩ = some (.int .u32 x.1) := (cell_of_row _ _ _ _ _ _ HO5.out).trans rfl; have r2 : w5.cell? ⟨pb, 2, none⟩ = some (.int .u8 x.2.1) := (cell_of_row _ _ _ _ _ _ HO5.out).trans rfl; have r3 : w5.cell? ⟨pb, 3, none⟩ = some (.int .u32 x.2.2) := (cell_of_row _ _ _ _ _ _ HO5.out).trans rfl; clear hb5 hx5)
                        | fail)
                      go_upto_region 40 with (first
                        | (go_at_call 12; (with_reducible refine (HPV.out _).mono ?_); rintro e w6 ⟨rfl, hb6⟩; have HPz := hid (HP5.out.below hb6); have HOz := hid ((hb6.block pb (Array.getElem?_eq_some_iff.1 HO5.out).1).trans HO5.out); have HBz := hid (HB5.out.trans (hb6.mono HB5.out.size)); clear hb6)
                        | fail)
                      obtain ⟨lz, hlz⟩ : ∃ lz : List It, lz = [] := ⟨_, rfl⟩
                      rw [← hlz] at HPz
                      clear hlz
                      obtain ⟨S, hS⟩ := HPz.out.rd
                      have HSM := hid (fun W (hb : Below w6.heap.size w6 W) => (HPz.out.below hb).same)
                      have HHA := hid (fun W (hb : Below w6.heap.size w6 W) => (HPz.out.below hb).has HKX.out)
                      have HFD := hid (fun W (hb : Below w6.heap.size w6 W) => find11_any W S _ _ x.1 (hS.below hb))
                      have HD := fnd_is lz x.1
                      have b1 : w6.drew.cell? ⟨pb, 1, none⟩ = some (.int .u32 x.1) := (cell_of_row w6 _ _ _ _ _ HOz.out).trans rfl
                      have HOC := hid (fun (W : World) (hb : Below w6.heap.size w6 W) => show W.cell? ⟨pb, 1, none⟩ = some (.int .u32 x.1) from (cell_of_row W _ _ _ _ _ ((hb.block pb (Array.getElem?_eq_some_iff.1 HOz.out).1).trans HOz.out)).trans rfl)
                      clear hS
                      go_region_held3 (fun w' => w'.cell? ⟨pb, 1, none⟩ = some (.int .u32 x.1)) (first | assumption | fail)
                        (first
                          | (go_at_call 13; (with_reducible refine (HSM.out _ (Below.refl _ _).drew).mono ?_); rintro e s1 ⟨rfl, hs1⟩; have HS1 := hid (show Below w6.heap.size w6 s1 from (Below.refl _ w6).drew.trans hs1); have c1 := HOC.out s1 HS1.out; clear hs1)
                          | (go_at_call 14; (with_reducible refine (HHA.out s1 HS1.out).mono ?_); rintro e s2 ⟨rfl, rfl⟩)
                          | (go_at_call 15; (with_reducible refine (HFD.out s1 HS1.out).mono ?_); rintro e s3 ⟨rfl, hs3⟩; have HS3 := hid (show Below w6.heap.size w6 s3 from HS1.out.trans (hs3.mono HS1.out.size)); have c3 := HOC.out s3 HS3.out; clear hs3)
                          | fail)
                      go_wp2_with fail
                      go_roundw
                      case rel => exact ⟨k + 1, lz, by go_num, HKL.out, by have := HK1.out; omega, (HPz.out.more (Nat.le_succ k)).below HS3.out, HBz.out.trans (HS3.out.mono HBz.out.size)⟩
                      case measure => have := HKL.out; simp [intOf]; omega
                    · go_upto_region 40 with (fail)
                      obtain ⟨S, hS⟩ := HPz.out.rd
                      have HSM := hid (fun W (hb : Below y2.heap.size y2 W) => (HPz.out.below hb).same)
                      have HHA := hid (fun W (hb : Below y2.heap.size y2 W) => (HPz.out.below hb).has HKX.out)
                      have HFD := hid (fun W (hb : Below y2.heap.size y2 W) => find11_any W S _ _ x.1 (hS.below hb))
                      have HD := fnd_is lz x.1
                      have b1 : y2.drew.cell? ⟨pb, 1, none⟩ = some (.int .u32 x.1) := (cell_of_row y2 _ _ _ _ _ HOz.out).trans rfl
                      have HOC := hid (fun (W : World) (hb : Below y2.heap.size y2 W) => show W.cell? ⟨pb, 1, none⟩ = some (.int .u32 x.1) from (cell_of_row W _ _ _ _ _ ((hb.block pb (Array.getElem?_eq_some_iff.1 HOz.out).1).trans HOz.out)).trans rfl)
                      clear hS
                      go_region_held3 (fun w' => w'.cell? ⟨pb, 1, none⟩ = some (.int .u32 x.1)) (first | assumption | fail)
                        (first
                          | (go_at_call 13; (with_reducible refine (HSM.out _ (Below.refl _ _).drew).mono ?_); rintro e s1 ⟨rfl, hs1⟩; have HS1 := hid (show Below y2.heap.size y2 s1 from (Below.refl _ y2).drew.trans hs1); have c1 := HOC.out s1 HS1.out; clear hs1)
                          | (go_at_call 14; (with_reducible refine (HHA.out s1 HS1.out).mono ?_); rintro e s2 ⟨rfl, rfl⟩)
                          | (go_at_call 15; (with_reducible refine (HFD.out s1 HS1.out).mono ?_); rintro e s3 ⟨rfl, hs3⟩; have HS3 := hid (show Below y2.heap.size y2 s3 from HS1.out.trans (hs3.mono HS1.out.size)); have c3 := HOC.out s3 HS3.out; clear hs3)
                          | fail)
                      go_wp2_with fail
                      go_roundw
                      case rel => exact ⟨k + 1, lz, by go_num, HKL.out, by have := HK1.out; omega, (HPz.out.more (Nat.le_succ k)).below HS3.out, HBz.out.trans (HS3.out.mono HBz.out.size)⟩
                      case measure => have := HKL.out; simp [intOf]; omega
      · have hki : ¬ (k : Int) < (len1 : Int) := by omega
        clear hB
        go_wp2_with fail
        go_ret
        exact ⟨rfl, HB.out⟩

/-! ### THE ROW's STEP -/
set_option maxRecDepth 100000 in
theorem lifted (os : Os) (started : os.Started) (H : Type) (enc : TypeId × Value → H) :
    ReturnsInHanded {} Try.checked os 3 .any (Rows.prioPlaysSpec.pre6 enc Try.prog Try.f3 Rows.prioPlaysRow.domain false) (Rows.prioPlaysSpec.post enc Try.prog Try.f3 false true false false) := by
  refine returnsInHanded_of_change (C := Try.checked) own started (by kernel_rfl) Try.func3
    (ChangeSpec.witness6 (enc := enc) (C := Try.checked) false ⟨#[], #[.bool false, .slice none 0 0], []⟩ 8 (by kernel_rfl) (by kernel_rfl) (by kernel_rfl) (by kernel_rfl)) ?_
  intro W base args ds gs before hval0 hW hcnd _
  have hval : ∀ (j : Nat) t v, Try.f3.params[j]? = some t → args[j]? = some v → Value.okWide Try.prog W .any base t v := hval0
  have hW' := hW
  obtain ⟨p, q, hA0, hV, rfl, hfz, hnd⟩ := hW
  have hA : DataW.TrodAll enc Try.prog W 0 (fun _ => true) true Try.f3.params.toList args.toList ds p := hA0
  rw [Try.params3] at hA hval
  obtain ⟨v0, vs0, d0, ds0, p0, q0, hargs, rfl, rfl, h0, r0⟩ := trodAll_cons hA
  obtain ⟨v1, vs1, d1, ds1, p1, q1, rfl, rfl, rfl, h1, r1⟩ := trodAll_cons r0
  obtain ⟨rfl, rfl, rfl⟩ := trodAll_nil r1
  obtain rfl : args = #[v0, v1] := by cases args; simp_all
  obtain ⟨rfl, rfl⟩ := trodVars_none hV
  have k0 := h0
  have lt0 : ∀ x ∈ p0, x.block < W.heap.size := by obtain ⟨m, hm⟩ := k0; exact DataW.trod_lt m _ _ _ hm
  have k1 := h1
  have lt1 : ∀ x ∈ p1, x.block < W.heap.size := by obtain ⟨m, hm⟩ := k1; exact DataW.trod_lt m _ _ _ hm
  obtain ⟨a0, rfl, rfl, rfl⟩ := open_bool Try.underlying4 (hval 0 4 v0 rfl rfl) h0
  obtain ⟨a1, len1, cap1, rfl⟩ := okWide_slice Try.underlying22 (hval 1 22 v1 rfl rfl)
  have w1 : IsOps11 W a1 len1 cap1 := isOps11_of h1
  clear hA0 hval0
  refine (walk a0 a1 len1 cap1 W w1).mono fun e W' ⟨he, bel⟩ => ?_
  subst he
  exact ⟨_, rfl, _, _, _, [], _, [], hW', trodAll_mk1 (shut_bool Try.underlying4 _), (trodAll_cons_mk (Below.trod laidOut (by kernel_rfl) (of_decide_eq_true (by kernel_rfl)) k0 bel lt0) (trodAll_cons_mk (Below.trod laidOut (by kernel_rfl) (of_decide_eq_true (by kernel_rfl)) k1 bel lt1) trodAll_mk0)), rfl, bel.frame _, fun h => by cases h⟩

theorem over : Rows.prioPlaysRow.holds Try.pinned (OpenSpec.ofChange Rows.prioPlaysSpec) :=
  OpenClaim.holds_of_wide 3 Try.f3 rfl rfl rfl rfl rfl rfl rfl ⟨rfl, rfl, rfl, rfl, rfl⟩ rfl rfl rfl rfl rfl (by kernel_rfl) Try.func3 (by kernel_rfl)
    (of_decide_eq_true (by kernel_rfl)) (by unfold Func.isWrapper; first | (rw [if_pos (by decide +kernel)]; kernel_rfl) | (rw [if_neg (by decide +kernel)]; exact ⟨rfl, rfl⟩))
    (fun os started H enc _ => lifted os started H enc)

/-- THE STATEMENT -/
theorem prioPlays_holds : Rows.PrioPlaysSaid := over
#print axioms prioPlays_holds
end Go.Proofs.Ytcgfechodbmimaa.prioPlays
