/-
  PrioMerge: of any two lists of items, two heaps put together come out as one heap of all. No condition.
  (The frame behind the walk is the guide's shell, at these parameters.)
-/
import Derived.Test.YtbcpcoknlcocdaaRows
import Derived.WalkKit
import Derived.Test.YtbcpcoknlcocdaaPrA
import Derived.ProofKit
import Derived.Deep.Cut
import Derived.Deep.CutRange
import Derived.Deep.CutBlock
import Derived.Deep.Grids
import Derived.OpenShut
import Derived.ShutString
import Derived.ChangeOld
import Derived.Below
namespace Go.Proofs.Ytbcpcoknlcocdaa.prioMerge
open Go.ChangeShapes Go.WideShapes Go.ChangeAt Go.RowKit
open Go.ChangeMaps (open_string shut_string)
set_option linter.unusedVariables false

theorem own : ownKnob Try.prog.godebug = none := by kernel_rfl
theorem laidOut : laidOutB Try.prog = true := by kernel_rfl

set_option linter.unusedSimpArgs false
set_option maxRecDepth 100000 in
set_option maxHeartbeats 8000000 in
theorem walk (a0 : Option Addr) (len0 cap0 : Nat) (a1 : Option Addr) (len1 cap1 : Nat) (w : World) (w0 : IsItems w a0 len0 cap0) (w1 : IsItems w a1 len1 cap1) :
    Calls Try.prog 6 #[.slice a0 len0 cap0, .slice a1 len1 cap1] w fun e w' => e = .returned (.bool true) ∧ Below w.heap.size w w' := by
  obtain ⟨L, hL, hrd⟩ := w0.rdi len0
  obtain ⟨M, hM, hrd2⟩ := w1.rdi len1
  obtain ⟨hlc, hcm⟩ := w0.bounds
  obtain ⟨hlc1, hcm1⟩ := w1.bounds
  rw [Nat.min_self] at hL hM
  have HR := hid hrd
  have HL := hid hL
  have HR' := hid hrd2
  have HL' := hid hM
  clear w0 w1 hrd hL hrd2 hM
  go_enter Try.func6, Try.ntmps6
  go_wp2_with fail
  refine (awake11_any w).mono ?_
  rintro e x1 ⟨rfl, hb1⟩
  have HB1 := hid hb1
  have hs1 := hb1.size
  clear hb1
  go_wp2_with fail
  refine (new11_any x1).mono ?_
  rintro e x2 ⟨rfl, hr, hb⟩
  obtain ⟨b1, hbb⟩ : ∃ b, b = x1.heap.size + 1 := ⟨_, rfl⟩
  obtain ⟨m1, hmm⟩ : ∃ m, m = x1.heap.size := ⟨_, rfl⟩
  rw [← hbb, ← hmm] at hr
  simp only [← hbb]
  have HH1 := hid (show Hp x2 b1 m1 (.slice none 0 0) [] from ⟨hr, fun k _ h => absurd h (by simp)⟩)
  have HC1 := hid (show Below w.heap.size w x2 from HB1.out.trans (hb.mono (by omega)))
  have HN1 := hid (show Below x1.heap.size x1 x2 from hb)
  have hsz1 := hb.size
  have HE1 := hid (And.intro hbb hmm)
  clear hr hb hbb hmm
  go_wp2_with fail
  refine (new11_any x2).mono ?_
  rintro e x3 ⟨rfl, hr, hb⟩
  obtain ⟨b2, hbb⟩ : ∃ b, b = x2.heap.size + 1 := ⟨_, rfl⟩
  obtain ⟨m2, hmm⟩ : ∃ m, m = x2.heap.size := ⟨_, rfl⟩
  rw [← hbb, ← hmm] at hr
  simp only [← hbb]
  have HH2 := hid (show Hp x3 b2 m2 (.slice none 0 0) [] from ⟨hr, fun k _ h => absurd h (by simp)⟩)
  have HB2 := hid (show Below w.heap.size w x3 from HC1.out.trans (hb.mono (by omega)))
  have HN2 := hid (show Below x2.heap.size x2 x3 from hb)
  have hsz2 := hb.size
  have HE2 := hid (And.intro hbb hmm)
  clear hr hb hbb hmm
  have HT := hid (show Two w x3 b1 m1 (.slice none 0 0) [] b2 m2 (.slice none 0 0) [] from ⟨HH1.out.below HN2.out, HH2.out, Ap.new HH1.out.r (by have := HE2.out.1; omega) (by have := HE2.out.2; omega), HB2.out, by have := HE1.out.2; omega, by have := HE2.out.2; omega⟩)
  clear HH1 HH2 HC1 HB1 HB2 HN1 HN2 HE1 HE2 hs1 hsz1 hsz2
  go_wp2_with fail
  go_loopw [24] (fun i wr => ∃ (k : Nat) (v1 : Value) (q1 : List It) (v2 : Value) (q2 : List It), i = .int .i64 k ∧ k ≤ len0 ∧ Two w wr b1 m1 v1 q1 b2 m2 v2 q2 ∧ q1.length ≤ k ∧ q1.length ≤ 50 ∧ q2.Perm q1) (fun i _ => len0 - (intOf i).toNat)
  case atStart => exact ⟨0, _, [], _, [], rfl, Nat.zero_le _, HT.out, Nat.zero_le _, Nat.zero_le _, List.Perm.refl _⟩
  case round =>
    obtain ⟨k, v1, q1, v2, q2, rfl, hk, hT, hql, hq50, hp⟩ := hrel
    have HTk := hid hT
    have HP := hid hp
    have HQ := hid (And.intro hql hq50)
    have hsw := hT.bel.size
    have HBw := hid hT.bel
    clear hT hp hql hq50
    by_cases hlt : k < len0
    · obtain ⟨x, hx⟩ : ∃ x, L[k]? = some x := ⟨_, List.getElem?_eq_getElem (by have := HL.out; omega)⟩
      obtain ⟨hkx, g, off, rfl, hgl, z0, z1, z2⟩ := (HR.out.all HBw.out) k x hx
      obtain ⟨t0, t1, t2⟩ := x
      dsimp only at hkx z0 z1 z2
      have hki : (k : Int) < (len0 : Int) := by omega
      have HKX := hid hkx
      obtain ⟨y1, hy1⟩ : ∃ y, y = wr.alloc (.cells #[.int .u32 t0, .int .u8 t1, .int .u32 t2] 29) := ⟨_, rfl⟩
      have hby : Below wr.heap.size wr y1 := by rw [hy1]; exact (Below.refl _ _).alloc (Nat.le_refl _) _
      have HBX := hid (show y1.heap[wr.heap.size]? = some (.cells #[.int .u32 t0, .int .u8 t1, .int .u32 t2] 29 (0, 0)) by rw [hy1]; exact heap_alloc_new wr _)
      have HT1 := hid (HTk.out.below hby)
      have hsy := (Array.getElem?_eq_some_iff.1 HBX.out).1
      have HNX := hid (show ¬ Hb b1 m1 v1 wr.heap.size ∧ ¬ Hb b2 m2 v2 wr.heap.size from ⟨HTk.out.h1.not_new (Nat.le_refl _), HTk.out.h2.not_new (Nat.le_refl _)⟩)
      clear hx hkx hby
      by_cases h50 : k < 50
      · have d1 : decide ((k : Int) < 50) = true := decide_eq_true (by omega)
        have hK50 : (k : Int) < 50 := by omega
        have HKK := hid h50
        clear h50
        have HP1 := hid (fun (W : World) (h : Hp W b1 m1 v1 q1) => h.push (t0, t1, t2) HKX.out (by have := HQ.out.2; omega))
        have HP2 := hid (fun (W : World) (h : Hp W b2 m2 v2 q2) => h.push (t0, t1, t2) HKX.out (by have := HQ.out.2; have := HP.out.length_eq; omega))
        unfold itv at HP1 HP2
        dsimp only at HP1 HP2
        go_wp2_with fail
        rw [← hy1]
        clear hy1
        refine (HP1.out _ HT1.out.h1).mono ?_
        rintro e y2 ⟨r1, v1', q1', rfl, hp1, hk1, ho1, hs1⟩
        have HT2 := hid (HT1.out.first hp1 hk1 ho1)
        have HBX2 := hid ((hk1.block wr.heap.size hsy HNX.out.1).trans HBX.out)
        have HS1 := hid hs1
        clear hp1 hk1 ho1 hs1
        have e0 : y2.cell? ⟨wr.heap.size, 0, none⟩ = some (.int .u32 t0) := (cell_of_row _ _ _ _ _ _ HBX2.out).trans rfl
        have e1 : y2.cell? ⟨wr.heap.size, 1, none⟩ = some (.int .u8 t1) := (cell_of_row _ _ _ _ _ _ HBX2.out).trans rfl
        have e2 : y2.cell? ⟨wr.heap.size, 2, none⟩ = some (.int .u32 t2) := (cell_of_row _ _ _ _ _ _ HBX2.out).trans rfl
        go_wp2_with fail
        refine (HP2.out _ HT2.out.h2).mono ?_
        rintro e y3 ⟨r2, v2', q2', rfl, hp2, hk2, ho2, hs2⟩
        have HT3 := hid (HT2.out.second hp2 hk2 ho2)
        have HPF := hid (Psh.perm HP.out HS1.out hs2)
        have HQF := hid (show q1'.length ≤ k + 1 ∧ q1'.length ≤ 50 by have := HS1.out.len; have := HQ.out; have := HKK.out; omega)
        clear hp2 hk2 ho2 hs2 e0 e1 e2
        go_wp2_with fail
        go_roundw
        case rel => exact ⟨k + 1, _, _, _, _, by go_num, hlt, HT3.out, HQF.out.1, HQF.out.2, HPF.out⟩
        case measure => simp [intOf]; omega
      · have d1 : decide ((k : Int) < 50) = false := decide_eq_false (by omega)
        have hK50 : ¬ (k : Int) < 50 := by omega
        clear h50
        go_wp2_with fail
        rw [← hy1]
        go_roundw
        case rel => exact ⟨k + 1, _, _, _, _, by go_num, hlt, HT1.out, Nat.le_succ_of_le HQ.out.1, HQ.out.2, HP.out⟩
        case measure => simp [intOf]; omega
    · have hki : ¬ (k : Int) < (len0 : Int) := by omega
      clear hlt hk
      go_wp2_with fail
      refine (new11_any wr).mono ?_
      rintro e x4 ⟨rfl, hr, hb⟩
      obtain ⟨b3, hbb⟩ : ∃ b, b = wr.heap.size + 1 := ⟨_, rfl⟩
      obtain ⟨m3, hmm⟩ : ∃ m, m = wr.heap.size := ⟨_, rfl⟩
      rw [← hbb, ← hmm] at hr
      simp only [← hbb]
      have HT4 := hid (show Three w x4 b1 m1 v1 q1 b2 m2 v2 q2 b3 m3 (.slice none 0 0) [] from ⟨HTk.out.below hb, ⟨hr, fun k _ h => absurd h (by simp)⟩, Ap.new HTk.out.h1.r (by omega) (by omega), Ap.new HTk.out.h2.r (by omega) (by omega), by omega⟩)
      have HP4 := hid (show q2.Perm (q1 ++ []) by rw [List.append_nil]; exact HP.out)
      have HQ4 := hid HQ.out.2
      clear HTk HP HQ HBw hr hb hbb hmm hki
      obtain ⟨k0, hk0⟩ : ∃ j, j = k := ⟨_, rfl⟩
      rw [← hk0]
      clear hk0
      go_wp2_with fail
      go_loopw [41] (fun i wr => ∃ (k : Nat) (v2 : Value) (q2 : List It) (v3 : Value) (q3 : List It), i = .int .i64 k ∧ k ≤ len1 ∧ Three w wr b1 m1 v1 q1 b2 m2 v2 q2 b3 m3 v3 q3 ∧ q3.length ≤ k ∧ q3.length ≤ 50 ∧ q2.Perm (q1 ++ q3)) (fun i _ => len1 - (intOf i).toNat)
      case atStart => exact ⟨0, _, _, _, [], rfl, Nat.zero_le _, HT4.out, Nat.zero_le _, Nat.zero_le _, HP4.out⟩
      case round =>
        obtain ⟨k, v2, q2, v3, q3, rfl, hk, hT, hql, hq50, hp⟩ := hrel
        have HTk := hid hT
        have HP := hid hp
        have HQ := hid (And.intro hql hq50)
        have hsw := hT.t.bel.size
        have HBw := hid hT.t.bel
        clear hT hp hql hq50
        by_cases hlt : k < len1
        · obtain ⟨x, hx⟩ : ∃ x, M[k]? = some x := ⟨_, List.getElem?_eq_getElem (by have := HL'.out; omega)⟩
          obtain ⟨hkx, g, off, rfl, hgl, z0, z1, z2⟩ := (HR'.out.all HBw.out) k x hx
          obtain ⟨t0, t1, t2⟩ := x
          dsimp only at hkx z0 z1 z2
          have hki : (k : Int) < (len1 : Int) := by omega
          have HKX := hid hkx
          obtain ⟨y1, hy1⟩ : ∃ y, y = wr.alloc (.cells #[.int .u32 t0, .int .u8 t1, .int .u32 t2] 29) := ⟨_, rfl⟩
          have hby : Below wr.heap.size wr y1 := by rw [hy1]; exact (Below.refl _ _).alloc (Nat.le_refl _) _
          have HBX := hid (show y1.heap[wr.heap.size]? = some (.cells #[.int .u32 t0, .int .u8 t1, .int .u32 t2] 29 (0, 0)) by rw [hy1]; exact heap_alloc_new wr _)
          have HT1 := hid (HTk.out.below hby)
          have hsy := (Array.getElem?_eq_some_iff.1 HBX.out).1
          have HNX := hid (show ¬ Hb b3 m3 v3 wr.heap.size ∧ ¬ Hb b2 m2 v2 wr.heap.size from ⟨HTk.out.h3.not_new (Nat.le_refl _), HTk.out.t.h2.not_new (Nat.le_refl _)⟩)
          clear hx hkx hby
          have HPT := hid (show Three w y1 b1 m1 v1 q1 b2 m2 v2 q2 b3 m3 v3 q3 from HT1.out)
          by_cases h50 : k < 50
          · have d1 : decide ((k : Int) < 50) = true := decide_eq_true (by omega)
            have hK50 : (k : Int) < 50 := by omega
            have HKK := hid h50
            clear h50
            have HHS := hid (fun (W : World) (h : Hp W b1 m1 v1 q1) => has11_any W m1 b1 m1 v1 q1 t0 h.r HKX.out)
            by_cases hin : (plc q1 t0).isSome = true
            · rw [hin] at HHS
              go_wp2_with fail
              rw [← hy1]
              clear hy1
              refine (HHS.out _ HT1.out.t.h1).mono ?_
              rintro e y2 ⟨rfl, rfl⟩
              go_wp2_with fail
              go_roundw
              case rel => exact ⟨k + 1, _, _, _, _, by go_num, hlt, HT1.out, Nat.le_succ_of_le HQ.out.1, HQ.out.2, HP.out⟩
              case measure => simp [intOf]; omega
            · have HNI := hid (show ∀ y ∈ q1, y.1 ≠ t0 from plc_none.1 (by cases e : plc q1 t0 with | none => rfl | some _ => exact absurd (by rw [e]; rfl) hin))
              rw [show (plc q1 t0).isSome = false by simpa using hin] at HHS
              clear hin
              have HP3 := hid (fun (W : World) (h : Hp W b3 m3 v3 q3) => h.push (t0, t1, t2) HKX.out (by have := HQ.out.2; omega))
              have HP2 := hid (fun (W : World) (h : Hp W b2 m2 v2 q2) => h.push (t0, t1, t2) HKX.out (by have := HQ.out.2; have := HQ4.out; have := HP.out.length_eq; rw [List.length_append] at this; omega))
              unfold itv at HP3 HP2
              dsimp only at HP3 HP2
              go_wp2_with fail
              rw [← hy1]
              clear hy1
              refine (HHS.out _ HT1.out.t.h1).mono ?_
              rintro e y2 ⟨rfl, rfl⟩
              have e0 : y1.cell? ⟨wr.heap.size, 0, none⟩ = some (.int .u32 t0) := (cell_of_row _ _ _ _ _ _ HBX.out).trans rfl
              have e1 : y1.cell? ⟨wr.heap.size, 1, none⟩ = some (.int .u8 t1) := (cell_of_row _ _ _ _ _ _ HBX.out).trans rfl
              have e2 : y1.cell? ⟨wr.heap.size, 2, none⟩ = some (.int .u32 t2) := (cell_of_row _ _ _ _ _ _ HBX.out).trans rfl
              go_wp2_with fail
              refine (HP3.out _ HT1.out.h3).mono ?_
              rintro e y2 ⟨r1, v3', q3', rfl, hp1, hk1, ho1, hs1⟩
              have HT2 := hid (HT1.out.third hp1 hk1 ho1)
              have HBX2 := hid ((hk1.block wr.heap.size hsy HNX.out.1).trans HBX.out)
              have HS1 := hid hs1
              clear hp1 hk1 ho1 hs1 e0 e1 e2
              have e0 : y2.cell? ⟨wr.heap.size, 0, none⟩ = some (.int .u32 t0) := (cell_of_row _ _ _ _ _ _ HBX2.out).trans rfl
              have e1 : y2.cell? ⟨wr.heap.size, 1, none⟩ = some (.int .u8 t1) := (cell_of_row _ _ _ _ _ _ HBX2.out).trans rfl
              have e2 : y2.cell? ⟨wr.heap.size, 2, none⟩ = some (.int .u32 t2) := (cell_of_row _ _ _ _ _ _ HBX2.out).trans rfl
              go_wp2_with fail
              refine (HP2.out _ HT2.out.t.h2).mono ?_
              rintro e y3 ⟨r2, v2', q2', rfl, hp2, hk2, ho2, hs2⟩
              have HT3 := hid (HT2.out.second hp2 hk2 ho2)
              have HPF := hid (Psh.other HP.out HNI.out HS1.out hs2)
              have HQF := hid (show q3'.length ≤ k + 1 ∧ q3'.length ≤ 50 by have := HS1.out.len; have := HQ.out; have := HKK.out; omega)
              clear hp2 hk2 ho2 hs2 e0 e1 e2
              go_wp2_with fail
              go_roundw
              case rel => exact ⟨k + 1, _, _, _, _, by go_num, hlt, HT3.out, HQF.out.1, HQF.out.2, HPF.out⟩
              case measure => simp [intOf]; omega
          · have d1 : decide ((k : Int) < 50) = false := decide_eq_false (by omega)
            have hK50 : ¬ (k : Int) < 50 := by omega
            clear h50
            go_wp2_with fail
            rw [← hy1]
            go_roundw
            case rel => exact ⟨k + 1, _, _, _, _, by go_num, hlt, HT1.out, Nat.le_succ_of_le HQ.out.1, HQ.out.2, HP.out⟩
            case measure => simp [intOf]; omega
        · have hki : ¬ (k : Int) < (len1 : Int) := by omega
          clear hlt hk
          go_wp2_with fail
          clear HQ HQ4 hki hlc hcm hlc1 hcm1
          go_loopg [] (q2.length) (fun n wr => ∃ (v1 : Value) (q1 : List It) (v2 : Value) (q2 : List It) (v3 : Value) (q3 : List It), q2.length = n ∧ Three w wr b1 m1 v1 q1 b2 m2 v2 q2 b3 m3 v3 q3 ∧ q2.Perm (q1 ++ q3))
          case atStart => exact ⟨_, _, _, _, _, _, rfl, HTk.out, HP.out⟩
          case round =>
            obtain ⟨v1, q1, v2, q2, v3, q3, hgk, hT, hp⟩ := hrel
            have HTk := hid hT
            have HP := hid hp
            have HGK := hid hgk
            clear hT hp hgk
            rcases hq : q2 with _ | ⟨c, r2⟩
            · as_aux_lemma =>
              subst hq
              obtain ⟨rfl, rfl⟩ : q1 = [] ∧ q3 = [] := by have := HP.out.length_eq; simp at this; exact ⟨List.eq_nil_of_length_eq_zero (by omega), List.eq_nil_of_length_eq_zero (by omega)⟩
              have HP2 := hid (fun (W : World) (h : Hp W b2 m2 v2 []) => pop11_no W m2 b2 m2 v2 h.r)
              have HP1 := hid (fun (W : World) (h : Hp W b1 m1 v1 []) => peek11_no W m1 b1 m1 v1 h.r)
              have HP3 := hid (fun (W : World) (h : Hp W b3 m3 v3 []) => peek11_no W m3 b3 m3 v3 h.r)
              unfold itv at HP1 HP2 HP3
              dsimp only at HP1 HP2 HP3
              go_wp2_with fail
              refine (HP2.out _ HTk.out.t.h2).mono ?_
              rintro e z1 ⟨rfl, hb⟩
              have HT1 := hid (HTk.out.below hb)
              clear hb
              obtain ⟨z2, hz2⟩ : ∃ y, y = z1.alloc (.cells #[.int .u32 0, .int .u8 0, .int .u32 0] 32) := ⟨_, rfl⟩
              have HT2 := hid (HT1.out.below (show Below z1.heap.size z1 z2 by rw [hz2]; exact (Below.refl _ _).alloc (Nat.le_refl _) _))
              go_wp2_with fail
              rw [← hz2]
              clear hz2
              refine (HP1.out _ HT2.out.t.h1).mono ?_
              rintro e z3 ⟨rfl, hb⟩
              have HT3 := hid (HT2.out.below hb)
              clear hb
              obtain ⟨z4, hz4⟩ : ∃ y, y = z3.alloc (.cells #[.int .u32 0, .int .u8 0, .int .u32 0] 32) := ⟨_, rfl⟩
              have HT4 := hid (HT3.out.below (show Below z3.heap.size z3 z4 by rw [hz4]; exact (Below.refl _ _).alloc (Nat.le_refl _) _))
              go_wp2_with fail
              rw [← hz4]
              clear hz4
              refine (HP3.out _ HT4.out.h3).mono ?_
              rintro e z5 ⟨rfl, hb⟩
              have HT5 := hid (HT4.out.below hb)
              clear hb
              obtain ⟨z6, hz6⟩ : ∃ y, y = z5.alloc (.cells #[.int .u32 0, .int .u8 0, .int .u32 0] 32) := ⟨_, rfl⟩
              have HT6 := hid (HT5.out.below (show Below z5.heap.size z5 z6 by rw [hz6]; exact (Below.refl _ _).alloc (Nat.le_refl _) _))
              go_wp2_with fail
              rw [← hz6]
              clear hz6
              go_ret
              exact ⟨rfl, HT6.out.t.bel⟩
            · by_cases hq1 : q1 = []
              · have hq3 : q3 ≠ [] := by rintro rfl; subst hq1; have := HP.out.length_eq; rw [hq] at this; simp at this
                · as_aux_lemma =>
                  have hn2 : q2.length = r2.length + 1 := by rw [hq]; rfl
                  subst hq1
                  have hn3 : q3.length = (q3.length - 1) + 1 := by have := List.length_pos_iff.2 hq3; omega
                  have hx := merge_r HP.out HTk.out.t.h1.h HTk.out.t.h2.h HTk.out.h3.h hq3 (.inl rfl)
                  have HP2 := hid (fun (W : World) (h : Hp W b2 m2 v2 q2) => pop11_yes W m2 b2 m2 v2 q2 _ h.r h.h hn2)
                  have HP1 := hid (fun (W : World) (h : Hp W b1 m1 v1 []) => peek11_no W m1 b1 m1 v1 h.r)
                  have HP3 := hid (fun (W : World) (h : Hp W b3 m3 v3 q3) => peek11_yes W m3 b3 m3 v3 q3 _ h.r hn3)
                  have HPO := hid (fun (W : World) (h : Hp W b3 m3 v3 q3) => pop11_yes W m3 b3 m3 v3 q3 _ h.r h.h hn3)
                  rw [hx] at HP2
                  obtain ⟨z, hz⟩ : ∃ y, y = it q3 0 := ⟨_, rfl⟩
                  rw [← hz] at HP2 HPO
                  rw [← hz] at HP3
                  clear hz
                  obtain ⟨z0, z1', z2⟩ := z
                  unfold itv at HP1 HP2 HP3 HPO
                  dsimp only at HP1 HP2 HP3 HPO
                  have HPV := hid HP.out
                  clear hx hn3 hq3
                  go_wp2_with fail
                  refine (HP2.out _ HTk.out.t.h2).mono ?_
                  rintro e s1 ⟨rfl, v2', q2', hr, hh, hpp, hkk, hoo⟩
                  have HT1 := hid (HTk.out.second ⟨hr, hh⟩ hkk (fun k hk => .inl (by rw [← hoo]; exact hk)))
                  have HPP := hid hpp
                  clear hr hh hpp hkk hoo
                  obtain ⟨s2, hs2⟩ : ∃ y, y = s1.alloc (.cells #[.int .u32 z0, .int .u8 z1', .int .u32 z2] 32) := ⟨_, rfl⟩
                  obtain ⟨g12, hg12⟩ : ∃ y, y = s1.heap.size := ⟨_, rfl⟩
                  have hbb : Below s1.heap.size s1 s2 := by rw [hs2]; exact (Below.refl _ _).alloc (Nat.le_refl _) _
                  have HX12 := hid (show s2.heap[g12]? = some (.cells #[.int .u32 z0, .int .u8 z1', .int .u32 z2] 32 (0, 0)) by rw [hs2, hg12]; exact heap_alloc_new s1 _)
                  have HNN12 := hid (show ∀ (b m : Nat) (v : Value) (q : List It), Hp s1 b m v q → ¬ Hb b m v g12 from fun _ _ _ _ h => h.not_new (by omega))
                  have HT2 := hid (HT1.out.below hbb)
                  go_wp2_with fail
                  rw [← hs2, ← hg12]
                  clear hs2 hg12 hbb
                  refine (HP1.out _ HT2.out.t.h1).mono ?_
                  rintro e s3 ⟨rfl, hb⟩
                  have HT3 := hid (HT2.out.below hb)
                  have HX12 := hid ((hb.block _ (Array.getElem?_eq_some_iff.1 HX12.out).1).trans HX12.out)
                  clear hb
                  obtain ⟨s4, hs4⟩ : ∃ y, y = s3.alloc (.cells #[.int .u32 0, .int .u8 0, .int .u32 0] 32) := ⟨_, rfl⟩
                  obtain ⟨g14, hg14⟩ : ∃ y, y = s3.heap.size := ⟨_, rfl⟩
                  have hbb : Below s3.heap.size s3 s4 := by rw [hs4]; exact (Below.refl _ _).alloc (Nat.le_refl _) _
                  have HX14 := hid (show s4.heap[g14]? = some (.cells #[.int .u32 0, .int .u8 0, .int .u32 0] 32 (0, 0)) by rw [hs4, hg14]; exact heap_alloc_new s3 _)
                  have HNN14 := hid (show ∀ (b m : Nat) (v : Value) (q : List It), Hp s3 b m v q → ¬ Hb b m v g14 from fun _ _ _ _ h => h.not_new (by omega))
                  have HT4 := hid (HT3.out.below hbb)
                  have HG14 := hid (show w.heap.size ≤ g14 by rw [hg14]; exact HT3.out.t.bel.size)
                  have hg1214 : g12 < g14 := by rw [hg14]; exact (Array.getElem?_eq_some_iff.1 HX12.out).1
                  have HX12 := hid ((hbb.block _ (Array.getElem?_eq_some_iff.1 HX12.out).1).trans HX12.out)
                  go_wp2_with fail
                  rw [← hs4, ← hg14]
                  clear hs4 hg14 hbb
                  refine (HP3.out _ HT4.out.h3).mono ?_
                  rintro e s5 ⟨rfl, hb⟩
                  have HT5 := hid (HT4.out.below hb)
                  have HX12 := hid ((hb.block _ (Array.getElem?_eq_some_iff.1 HX12.out).1).trans HX12.out)
                  have HX14 := hid ((hb.block _ (Array.getElem?_eq_some_iff.1 HX14.out).1).trans HX14.out)
                  clear hb
                  obtain ⟨s6, hs6⟩ : ∃ y, y = s5.alloc (.cells #[.int .u32 z0, .int .u8 z1', .int .u32 z2] 32) := ⟨_, rfl⟩
                  obtain ⟨g16, hg16⟩ : ∃ y, y = s5.heap.size := ⟨_, rfl⟩
                  have hbb : Below s5.heap.size s5 s6 := by rw [hs6]; exact (Below.refl _ _).alloc (Nat.le_refl _) _
                  have HX16 := hid (show s6.heap[g16]? = some (.cells #[.int .u32 z0, .int .u8 z1', .int .u32 z2] 32 (0, 0)) by rw [hs6, hg16]; exact heap_alloc_new s5 _)
                  have HNN16 := hid (show ∀ (b m : Nat) (v : Value) (q : List It), Hp s5 b m v q → ¬ Hb b m v g16 from fun _ _ _ _ h => h.not_new (by omega))
                  have HT6 := hid (HT5.out.below hbb)
                  have hg1416 : g14 < g16 := by rw [hg16]; exact (Array.getElem?_eq_some_iff.1 HX14.out).1
                  have HX12 := hid ((hbb.block _ (Array.getElem?_eq_some_iff.1 HX12.out).1).trans HX12.out)
                  have HX14 := hid ((hbb.block _ (Array.getElem?_eq_some_iff.1 HX14.out).1).trans HX14.out)
                  go_wp2_with fail
                  rw [← hs6]
                  rw [← hg16]
                  clear hs6 hg16 hbb
                  refine (HPO.out _ HT6.out.h3).mono ?_
                  rintro e s8 ⟨rfl, v3', q3', hr, hh, hpp, hkk, hoo⟩
                  have HT8 := hid (HT6.out.third ⟨hr, hh⟩ hkk (fun k hk => .inl (by rw [← hoo]; exact hk)))
                  have HPF := hid (merge_dr HP.out hpp HPP.out)
                  have HGF := hid (show q2'.length < gk by have h1 := HPP.out.length_eq; rw [List.length_cons] at h1; have := HGK.out; omega)
                  have HX12 := hid ((hkk.block _ (Array.getElem?_eq_some_iff.1 HX12.out).1 (HNN12.out _ _ _ _ HT1.out.h3)).trans HX12.out)
                  have HX14 := hid ((hkk.block _ (Array.getElem?_eq_some_iff.1 HX14.out).1 (HNN14.out _ _ _ _ HT3.out.h3)).trans HX14.out)
                  have HX16 := hid ((hkk.block _ (Array.getElem?_eq_some_iff.1 HX16.out).1 (HNN16.out _ _ _ _ HT5.out.h3)).trans HX16.out)
                  have HNP := hid (show ¬ Hb b3 m3 v3' g14 from fun h => HNN14.out _ _ _ _ HT3.out.h3 (h.own hoo))
                  clear hr hh hpp hkk hoo
                  have a0 : s8.cell? ⟨g12, 0, none⟩ = some (.int .u32 z0) := (cell_of_row _ _ _ _ _ _ HX12.out).trans rfl
                  have a1 : s8.cell? ⟨g12, 1, none⟩ = some (.int .u8 z1') := (cell_of_row _ _ _ _ _ _ HX12.out).trans rfl
                  have a2 : s8.cell? ⟨g12, 2, none⟩ = some (.int .u32 z2) := (cell_of_row _ _ _ _ _ _ HX12.out).trans rfl
                  have c0 : s8.cell? ⟨g14, 0, none⟩ = some (.int .u32 0) := (cell_of_row _ _ _ _ _ _ HX14.out).trans rfl
                  have c1 : s8.cell? ⟨g14, 1, none⟩ = some (.int .u8 0) := (cell_of_row _ _ _ _ _ _ HX14.out).trans rfl
                  have c2 : s8.cell? ⟨g14, 2, none⟩ = some (.int .u32 0) := (cell_of_row _ _ _ _ _ _ HX14.out).trans rfl
                  have d0 : s8.cell? ⟨g16, 0, none⟩ = some (.int .u32 z0) := (cell_of_row _ _ _ _ _ _ HX16.out).trans rfl
                  have d1 : s8.cell? ⟨g16, 1, none⟩ = some (.int .u8 z1') := (cell_of_row _ _ _ _ _ _ HX16.out).trans rfl
                  have d2 : s8.cell? ⟨g16, 2, none⟩ = some (.int .u32 z2) := (cell_of_row _ _ _ _ _ _ HX16.out).trans rfl
                  have f0 : s8.frozen? ⟨g14, 0, none⟩ = false := frozen_of_row _ _ _ _ _ HX14.out
                  have f1 : s8.frozen? ⟨g14, 1, none⟩ = false := frozen_of_row _ _ _ _ _ HX14.out
                  have f2 : s8.frozen? ⟨g14, 2, none⟩ = false := frozen_of_row _ _ _ _ _ HX14.out
                  have hne : g12 ≠ g14 := by omega
                  have hne' : g14 ≠ g16 := by omega
                  obtain ⟨s9, hs9⟩ : ∃ s, s = ((s8.setCell ⟨g14, 0, none⟩ (.int .u32 z0)).setCell ⟨g14, 1, none⟩ (.int .u8 z1')).setCell ⟨g14, 2, none⟩ (.int .u32 z2) := ⟨_, rfl⟩
                  have hk9 : Keeps (fun k => k = g14) s8 s9 := by
                    have k0 : Keeps (fun k => k = g14) s8 s8 := ⟨rfl, rfl, rfl, Nat.le_refl _, fun _ _ _ => rfl⟩
                    rw [hs9]
                    exact ((k0.setCell (p := ⟨g14, 0, none⟩) (fun _ => rfl) _).setCell (p := ⟨g14, 1, none⟩) (fun _ => rfl) _).setCell (p := ⟨g14, 2, none⟩) (fun _ => rfl) _
                  have HX14' := hid (show s9.heap[g14]? = some (.cells #[.int .u32 z0, .int .u8 z1', .int .u32 z2] 32 (0, 0)) by rw [hs9]; exact set3_heap HX14.out)
                  have HX12' := hid ((hk9.block g12 (Array.getElem?_eq_some_iff.1 HX12.out).1 (by omega)).trans HX12.out)
                  have HT9 := hid (HT8.out.box hk9 HG14.out (HNN14.out _ _ _ _ HT3.out.t.h1) (HNN14.out _ _ _ _ HT3.out.t.h2) HNP.out)
                  clear hk9
                  have i0 : s9.cell? ⟨g12, 0, none⟩ = some (.int .u32 z0) := (cell_of_row _ _ _ _ _ _ HX12'.out).trans rfl
                  have i1 : s9.cell? ⟨g12, 1, none⟩ = some (.int .u8 z1') := (cell_of_row _ _ _ _ _ _ HX12'.out).trans rfl
                  have i2 : s9.cell? ⟨g12, 2, none⟩ = some (.int .u32 z2) := (cell_of_row _ _ _ _ _ _ HX12'.out).trans rfl
                  have j0 : s9.cell? ⟨g14, 0, none⟩ = some (.int .u32 z0) := (cell_of_row _ _ _ _ _ _ HX14'.out).trans rfl
                  have j1 : s9.cell? ⟨g14, 1, none⟩ = some (.int .u8 z1') := (cell_of_row _ _ _ _ _ _ HX14'.out).trans rfl
                  have j2 : s9.cell? ⟨g14, 2, none⟩ = some (.int .u32 z2) := (cell_of_row _ _ _ _ _ _ HX14'.out).trans rfl
                  go_upto_region 29 with (fail)
                  rw [← hs9]
                  clear hs9
                  go_wp2_with fail
                  go_roundg q2'.length
                  case measure => exact HGF.out
                  case rel => exact ⟨_, _, _, _, _, _, rfl, HT9.out, HPF.out⟩
              · by_cases hq3 : q3 = []
                · as_aux_lemma =>
                  have hn2 : q2.length = r2.length + 1 := by rw [hq]; rfl
                  have hn1 : q1.length = (q1.length - 1) + 1 := by have := List.length_pos_iff.2 hq1; omega
                  subst hq3
                  have hx := merge_l HP.out HTk.out.t.h1.h HTk.out.t.h2.h HTk.out.h3.h hq1 (.inl rfl)
                  have HP2 := hid (fun (W : World) (h : Hp W b2 m2 v2 q2) => pop11_yes W m2 b2 m2 v2 q2 _ h.r h.h hn2)
                  have HP1 := hid (fun (W : World) (h : Hp W b1 m1 v1 q1) => peek11_yes W m1 b1 m1 v1 q1 _ h.r hn1)
                  have HP3 := hid (fun (W : World) (h : Hp W b3 m3 v3 []) => peek11_no W m3 b3 m3 v3 h.r)
                  have HPO := hid (fun (W : World) (h : Hp W b1 m1 v1 q1) => pop11_yes W m1 b1 m1 v1 q1 _ h.r h.h hn1)
                  rw [hx] at HP2
                  obtain ⟨y, hy⟩ : ∃ y, y = it q1 0 := ⟨_, rfl⟩
                  rw [← hy] at HP2 HPO
                  rw [← hy] at HP1
                  clear hy
                  obtain ⟨y0, y1', y2⟩ := y
                  unfold itv at HP1 HP2 HP3 HPO
                  dsimp only at HP1 HP2 HP3 HPO
                  have HPV := hid HP.out
                  clear hx hn1 hq1
                  go_wp2_with fail
                  refine (HP2.out _ HTk.out.t.h2).mono ?_
                  rintro e s1 ⟨rfl, v2', q2', hr, hh, hpp, hkk, hoo⟩
                  have HT1 := hid (HTk.out.second ⟨hr, hh⟩ hkk (fun k hk => .inl (by rw [← hoo]; exact hk)))
                  have HPP := hid hpp
                  clear hr hh hpp hkk hoo
                  obtain ⟨s2, hs2⟩ : ∃ y, y = s1.alloc (.cells #[.int .u32 y0, .int .u8 y1', .int .u32 y2] 32) := ⟨_, rfl⟩
                  obtain ⟨g12, hg12⟩ : ∃ y, y = s1.heap.size := ⟨_, rfl⟩
                  have hbb : Below s1.heap.size s1 s2 := by rw [hs2]; exact (Below.refl _ _).alloc (Nat.le_refl _) _
                  have HX12 := hid (show s2.heap[g12]? = some (.cells #[.int .u32 y0, .int .u8 y1', .int .u32 y2] 32 (0, 0)) by rw [hs2, hg12]; exact heap_alloc_new s1 _)
                  have HNN12 := hid (show ∀ (b m : Nat) (v : Value) (q : List It), Hp s1 b m v q → ¬ Hb b m v g12 from fun _ _ _ _ h => h.not_new (by omega))
                  have HT2 := hid (HT1.out.below hbb)
                  go_wp2_with fail
                  rw [← hs2, ← hg12]
                  clear hs2 hg12 hbb
                  refine (HP1.out _ HT2.out.t.h1).mono ?_
                  rintro e s3 ⟨rfl, hb⟩
                  have HT3 := hid (HT2.out.below hb)
                  have HX12 := hid ((hb.block _ (Array.getElem?_eq_some_iff.1 HX12.out).1).trans HX12.out)
                  clear hb
                  obtain ⟨s4, hs4⟩ : ∃ y, y = s3.alloc (.cells #[.int .u32 y0, .int .u8 y1', .int .u32 y2] 32) := ⟨_, rfl⟩
                  obtain ⟨g14, hg14⟩ : ∃ y, y = s3.heap.size := ⟨_, rfl⟩
                  have hbb : Below s3.heap.size s3 s4 := by rw [hs4]; exact (Below.refl _ _).alloc (Nat.le_refl _) _
                  have HX14 := hid (show s4.heap[g14]? = some (.cells #[.int .u32 y0, .int .u8 y1', .int .u32 y2] 32 (0, 0)) by rw [hs4, hg14]; exact heap_alloc_new s3 _)
                  have HNN14 := hid (show ∀ (b m : Nat) (v : Value) (q : List It), Hp s3 b m v q → ¬ Hb b m v g14 from fun _ _ _ _ h => h.not_new (by omega))
                  have HT4 := hid (HT3.out.below hbb)
                  have HG14 := hid (show w.heap.size ≤ g14 by rw [hg14]; exact HT3.out.t.bel.size)
                  have hg1214 : g12 < g14 := by rw [hg14]; exact (Array.getElem?_eq_some_iff.1 HX12.out).1
                  have HX12 := hid ((hbb.block _ (Array.getElem?_eq_some_iff.1 HX12.out).1).trans HX12.out)
                  go_wp2_with fail
                  rw [← hs4, ← hg14]
                  clear hs4 hg14 hbb
                  refine (HP3.out _ HT4.out.h3).mono ?_
                  rintro e s5 ⟨rfl, hb⟩
                  have HT5 := hid (HT4.out.below hb)
                  have HX12 := hid ((hb.block _ (Array.getElem?_eq_some_iff.1 HX12.out).1).trans HX12.out)
                  have HX14 := hid ((hb.block _ (Array.getElem?_eq_some_iff.1 HX14.out).1).trans HX14.out)
                  clear hb
                  obtain ⟨s6, hs6⟩ : ∃ y, y = s5.alloc (.cells #[.int .u32 0, .int .u8 0, .int .u32 0] 32) := ⟨_, rfl⟩
                  obtain ⟨g16, hg16⟩ : ∃ y, y = s5.heap.size := ⟨_, rfl⟩
                  have hbb : Below s5.heap.size s5 s6 := by rw [hs6]; exact (Below.refl _ _).alloc (Nat.le_refl _) _
                  have HX16 := hid (show s6.heap[g16]? = some (.cells #[.int .u32 0, .int .u8 0, .int .u32 0] 32 (0, 0)) by rw [hs6, hg16]; exact heap_alloc_new s5 _)
                  have HNN16 := hid (show ∀ (b m : Nat) (v : Value) (q : List It), Hp s5 b m v q → ¬ Hb b m v g16 from fun _ _ _ _ h => h.not_new (by omega))
                  have HT6 := hid (HT5.out.below hbb)
                  have hg1416 : g14 < g16 := by rw [hg16]; exact (Array.getElem?_eq_some_iff.1 HX14.out).1
                  have HX12 := hid ((hbb.block _ (Array.getElem?_eq_some_iff.1 HX12.out).1).trans HX12.out)
                  have HX14 := hid ((hbb.block _ (Array.getElem?_eq_some_iff.1 HX14.out).1).trans HX14.out)
                  go_wp2_with fail
                  rw [← hs6]
                  rw [← hg16]
                  clear hs6 hg16 hbb
                  refine (HPO.out _ HT6.out.t.h1).mono ?_
                  rintro e s8 ⟨rfl, v1', q1', hr, hh, hpp, hkk, hoo⟩
                  have HT8 := hid (HT6.out.first ⟨hr, hh⟩ hkk (fun k hk => .inl (by rw [← hoo]; exact hk)))
                  have HPF := hid (merge_dl HP.out hpp HPP.out)
                  have HGF := hid (show q2'.length < gk by have h1 := HPP.out.length_eq; rw [List.length_cons] at h1; have := HGK.out; omega)
                  have HX12 := hid ((hkk.block _ (Array.getElem?_eq_some_iff.1 HX12.out).1 (HNN12.out _ _ _ _ HT1.out.t.h1)).trans HX12.out)
                  have HX14 := hid ((hkk.block _ (Array.getElem?_eq_some_iff.1 HX14.out).1 (HNN14.out _ _ _ _ HT3.out.t.h1)).trans HX14.out)
                  have HX16 := hid ((hkk.block _ (Array.getElem?_eq_some_iff.1 HX16.out).1 (HNN16.out _ _ _ _ HT5.out.t.h1)).trans HX16.out)
                  clear hr hh hpp hkk hoo
                  have a0 : s8.cell? ⟨g12, 0, none⟩ = some (.int .u32 y0) := (cell_of_row _ _ _ _ _ _ HX12.out).trans rfl
                  have a1 : s8.cell? ⟨g12, 1, none⟩ = some (.int .u8 y1') := (cell_of_row _ _ _ _ _ _ HX12.out).trans rfl
                  have a2 : s8.cell? ⟨g12, 2, none⟩ = some (.int .u32 y2) := (cell_of_row _ _ _ _ _ _ HX12.out).trans rfl
                  have c0 : s8.cell? ⟨g14, 0, none⟩ = some (.int .u32 y0) := (cell_of_row _ _ _ _ _ _ HX14.out).trans rfl
                  have c1 : s8.cell? ⟨g14, 1, none⟩ = some (.int .u8 y1') := (cell_of_row _ _ _ _ _ _ HX14.out).trans rfl
                  have c2 : s8.cell? ⟨g14, 2, none⟩ = some (.int .u32 y2) := (cell_of_row _ _ _ _ _ _ HX14.out).trans rfl
                  go_wp2_with fail
                  go_roundg q2'.length
                  case measure => exact HGF.out
                  case rel => exact ⟨_, _, _, _, _, _, rfl, HT8.out, HPF.out⟩
                · by_cases hbf : Bef (it q1 0) (it q3 0)
                  · as_aux_lemma =>
                    have hn2 : q2.length = r2.length + 1 := by rw [hq]; rfl
                    have hn1 : q1.length = (q1.length - 1) + 1 := by have := List.length_pos_iff.2 hq1; omega
                    have hn3 : q3.length = (q3.length - 1) + 1 := by have := List.length_pos_iff.2 hq3; omega
                    have hx := merge_l HP.out HTk.out.t.h1.h HTk.out.t.h2.h HTk.out.h3.h hq1 (.inr hbf)
                    have HP2 := hid (fun (W : World) (h : Hp W b2 m2 v2 q2) => pop11_yes W m2 b2 m2 v2 q2 _ h.r h.h hn2)
                    have HP1 := hid (fun (W : World) (h : Hp W b1 m1 v1 q1) => peek11_yes W m1 b1 m1 v1 q1 _ h.r hn1)
                    have HP3 := hid (fun (W : World) (h : Hp W b3 m3 v3 q3) => peek11_yes W m3 b3 m3 v3 q3 _ h.r hn3)
                    have HPO := hid (fun (W : World) (h : Hp W b1 m1 v1 q1) => pop11_yes W m1 b1 m1 v1 q1 _ h.r h.h hn1)
                    rw [hx] at HP2
                    have HFI := hid (fun (W : World) => first11_any W (it q1 0) (it q3 0))
                    rw [show decide (Bef (it q1 0) (it q3 0)) = true from decide_eq_true hbf] at HFI
                    obtain ⟨y, hy⟩ : ∃ y, y = it q1 0 := ⟨_, rfl⟩
                    obtain ⟨z, hz⟩ : ∃ y, y = it q3 0 := ⟨_, rfl⟩
                    rw [← hy] at HP2 HPO
                    rw [← hy] at HP1
                    rw [← hz] at HP3
                    rw [← hy, ← hz] at HFI
                    clear hy
                    obtain ⟨y0, y1', y2⟩ := y
                    clear hz
                    obtain ⟨z0, z1', z2⟩ := z
                    unfold itv at HP1 HP2 HP3 HPO HFI
                    dsimp only at HP1 HP2 HP3 HPO HFI
                    have HPV := hid HP.out
                    clear hx hn1 hn3 hq1 hq3 hbf
                    go_wp2_with fail
                    refine (HP2.out _ HTk.out.t.h2).mono ?_
                    rintro e s1 ⟨rfl, v2', q2', hr, hh, hpp, hkk, hoo⟩
                    have HT1 := hid (HTk.out.second ⟨hr, hh⟩ hkk (fun k hk => .inl (by rw [← hoo]; exact hk)))
                    have HPP := hid hpp
                    clear hr hh hpp hkk hoo
                    obtain ⟨s2, hs2⟩ : ∃ y, y = s1.alloc (.cells #[.int .u32 y0, .int .u8 y1', .int .u32 y2] 32) := ⟨_, rfl⟩
                    obtain ⟨g12, hg12⟩ : ∃ y, y = s1.heap.size := ⟨_, rfl⟩
                    have hbb : Below s1.heap.size s1 s2 := by rw [hs2]; exact (Below.refl _ _).alloc (Nat.le_refl _) _
                    have HX12 := hid (show s2.heap[g12]? = some (.cells #[.int .u32 y0, .int .u8 y1', .int .u32 y2] 32 (0, 0)) by rw [hs2, hg12]; exact heap_alloc_new s1 _)
                    have HNN12 := hid (show ∀ (b m : Nat) (v : Value) (q : List It), Hp s1 b m v q → ¬ Hb b m v g12 from fun _ _ _ _ h => h.not_new (by omega))
                    have HT2 := hid (HT1.out.below hbb)
                    go_wp2_with fail
                    rw [← hs2, ← hg12]
                    clear hs2 hg12 hbb
                    refine (HP1.out _ HT2.out.t.h1).mono ?_
                    rintro e s3 ⟨rfl, hb⟩
                    have HT3 := hid (HT2.out.below hb)
                    have HX12 := hid ((hb.block _ (Array.getElem?_eq_some_iff.1 HX12.out).1).trans HX12.out)
                    clear hb
                    obtain ⟨s4, hs4⟩ : ∃ y, y = s3.alloc (.cells #[.int .u32 y0, .int .u8 y1', .int .u32 y2] 32) := ⟨_, rfl⟩
                    obtain ⟨g14, hg14⟩ : ∃ y, y = s3.heap.size := ⟨_, rfl⟩
                    have hbb : Below s3.heap.size s3 s4 := by rw [hs4]; exact (Below.refl _ _).alloc (Nat.le_refl _) _
                    have HX14 := hid (show s4.heap[g14]? = some (.cells #[.int .u32 y0, .int .u8 y1', .int .u32 y2] 32 (0, 0)) by rw [hs4, hg14]; exact heap_alloc_new s3 _)
                    have HNN14 := hid (show ∀ (b m : Nat) (v : Value) (q : List It), Hp s3 b m v q → ¬ Hb b m v g14 from fun _ _ _ _ h => h.not_new (by omega))
                    have HT4 := hid (HT3.out.below hbb)
                    have HG14 := hid (show w.heap.size ≤ g14 by rw [hg14]; exact HT3.out.t.bel.size)
                    have hg1214 : g12 < g14 := by rw [hg14]; exact (Array.getElem?_eq_some_iff.1 HX12.out).1
                    have HX12 := hid ((hbb.block _ (Array.getElem?_eq_some_iff.1 HX12.out).1).trans HX12.out)
                    go_wp2_with fail
                    rw [← hs4, ← hg14]
                    clear hs4 hg14 hbb
                    refine (HP3.out _ HT4.out.h3).mono ?_
                    rintro e s5 ⟨rfl, hb⟩
                    have HT5 := hid (HT4.out.below hb)
                    have HX12 := hid ((hb.block _ (Array.getElem?_eq_some_iff.1 HX12.out).1).trans HX12.out)
                    have HX14 := hid ((hb.block _ (Array.getElem?_eq_some_iff.1 HX14.out).1).trans HX14.out)
                    clear hb
                    obtain ⟨s6, hs6⟩ : ∃ y, y = s5.alloc (.cells #[.int .u32 z0, .int .u8 z1', .int .u32 z2] 32) := ⟨_, rfl⟩
                    obtain ⟨g16, hg16⟩ : ∃ y, y = s5.heap.size := ⟨_, rfl⟩
                    have hbb : Below s5.heap.size s5 s6 := by rw [hs6]; exact (Below.refl _ _).alloc (Nat.le_refl _) _
                    have HX16 := hid (show s6.heap[g16]? = some (.cells #[.int .u32 z0, .int .u8 z1', .int .u32 z2] 32 (0, 0)) by rw [hs6, hg16]; exact heap_alloc_new s5 _)
                    have HNN16 := hid (show ∀ (b m : Nat) (v : Value) (q : List It), Hp s5 b m v q → ¬ Hb b m v g16 from fun _ _ _ _ h => h.not_new (by omega))
                    have HT6 := hid (HT5.out.below hbb)
                    have hg1416 : g14 < g16 := by rw [hg16]; exact (Array.getElem?_eq_some_iff.1 HX14.out).1
                    have HX12 := hid ((hbb.block _ (Array.getElem?_eq_some_iff.1 HX12.out).1).trans HX12.out)
                    have HX14 := hid ((hbb.block _ (Array.getElem?_eq_some_iff.1 HX14.out).1).trans HX14.out)
                    rw [hs6] at HX14 HX16
                    have a0 : (s5.alloc (.cells #[.int .u32 z0, .int .u8 z1', .int .u32 z2] 32)).cell? ⟨g14, 0, none⟩ = some (.int .u32 y0) := (cell_of_row _ _ _ _ _ _ HX14.out).trans rfl
                    have a1 : (s5.alloc (.cells #[.int .u32 z0, .int .u8 z1', .int .u32 z2] 32)).cell? ⟨g14, 1, none⟩ = some (.int .u8 y1') := (cell_of_row _ _ _ _ _ _ HX14.out).trans rfl
                    have a2 : (s5.alloc (.cells #[.int .u32 z0, .int .u8 z1', .int .u32 z2] 32)).cell? ⟨g14, 2, none⟩ = some (.int .u32 y2) := (cell_of_row _ _ _ _ _ _ HX14.out).trans rfl
                    have c0 : (s5.alloc (.cells #[.int .u32 z0, .int .u8 z1', .int .u32 z2] 32)).cell? ⟨g16, 0, none⟩ = some (.int .u32 z0) := (cell_of_row _ _ _ _ _ _ HX16.out).trans rfl
                    have c1 : (s5.alloc (.cells #[.int .u32 z0, .int .u8 z1', .int .u32 z2] 32)).cell? ⟨g16, 1, none⟩ = some (.int .u8 z1') := (cell_of_row _ _ _ _ _ _ HX16.out).trans rfl
                    have c2 : (s5.alloc (.cells #[.int .u32 z0, .int .u8 z1', .int .u32 z2] 32)).cell? ⟨g16, 2, none⟩ = some (.int .u32 z2) := (cell_of_row _ _ _ _ _ _ HX16.out).trans rfl
                    rw [← hs6] at HX14 HX16
                    have HS6 := hid hs6
                    have HG16 := hid hg16
                    rw [hg16] at c0 c1 c2
                    go_wp2_with fail
                    rw [← HS6.out]
                    rw [← HG16.out]
                    clear HS6 HG16 hs6 hg16 hbb a0 a1 a2 c0 c1 c2
                    refine (HFI.out s6).mono ?_
                    rintro e s7 ⟨rfl, hb⟩
                    have HT7 := hid (HT6.out.below hb)
                    have HX12 := hid ((hb.block _ (Array.getElem?_eq_some_iff.1 HX12.out).1).trans HX12.out)
                    have HX14 := hid ((hb.block _ (Array.getElem?_eq_some_iff.1 HX14.out).1).trans HX14.out)
                    have HX16 := hid ((hb.block _ (Array.getElem?_eq_some_iff.1 HX16.out).1).trans HX16.out)
                    clear hb
                    go_wp2_with fail
                    refine (HPO.out _ HT7.out.t.h1).mono ?_
                    rintro e s8 ⟨rfl, v1', q1', hr, hh, hpp, hkk, hoo⟩
                    have HT8 := hid (HT7.out.first ⟨hr, hh⟩ hkk (fun k hk => .inl (by rw [← hoo]; exact hk)))
                    have HPF := hid (merge_dl HP.out hpp HPP.out)
                    have HGF := hid (show q2'.length < gk by have h1 := HPP.out.length_eq; rw [List.length_cons] at h1; have := HGK.out; omega)
                    have HX12 := hid ((hkk.block _ (Array.getElem?_eq_some_iff.1 HX12.out).1 (HNN12.out _ _ _ _ HT1.out.t.h1)).trans HX12.out)
                    have HX14 := hid ((hkk.block _ (Array.getElem?_eq_some_iff.1 HX14.out).1 (HNN14.out _ _ _ _ HT3.out.t.h1)).trans HX14.out)
                    have HX16 := hid ((hkk.block _ (Array.getElem?_eq_some_iff.1 HX16.out).1 (HNN16.out _ _ _ _ HT5.out.t.h1)).trans HX16.out)
                    clear hr hh hpp hkk hoo
                    have a0 : s8.cell? ⟨g12, 0, none⟩ = some (.int .u32 y0) := (cell_of_row _ _ _ _ _ _ HX12.out).trans rfl
                    have a1 : s8.cell? ⟨g12, 1, none⟩ = some (.int .u8 y1') := (cell_of_row _ _ _ _ _ _ HX12.out).trans rfl
                    have a2 : s8.cell? ⟨g12, 2, none⟩ = some (.int .u32 y2) := (cell_of_row _ _ _ _ _ _ HX12.out).trans rfl
                    have c0 : s8.cell? ⟨g14, 0, none⟩ = some (.int .u32 y0) := (cell_of_row _ _ _ _ _ _ HX14.out).trans rfl
                    have c1 : s8.cell? ⟨g14, 1, none⟩ = some (.int .u8 y1') := (cell_of_row _ _ _ _ _ _ HX14.out).trans rfl
                    have c2 : s8.cell? ⟨g14, 2, none⟩ = some (.int .u32 y2) := (cell_of_row _ _ _ _ _ _ HX14.out).trans rfl
                    go_wp2_with fail
                    go_roundg q2'.length
                    case measure => exact HGF.out
                    case rel => exact ⟨_, _, _, _, _, _, rfl, HT8.out, HPF.out⟩
                  · as_aux_lemma =>
                    have hn2 : q2.length = r2.length + 1 := by rw [hq]; rfl
                    have hn1 : q1.length = (q1.length - 1) + 1 := by have := List.length_pos_iff.2 hq1; omega
                    have hn3 : q3.length = (q3.length - 1) + 1 := by have := List.length_pos_iff.2 hq3; omega
                    have hx := merge_r HP.out HTk.out.t.h1.h HTk.out.t.h2.h HTk.out.h3.h hq3 (.inr hbf)
                    have HP2 := hid (fun (W : World) (h : Hp W b2 m2 v2 q2) => pop11_yes W m2 b2 m2 v2 q2 _ h.r h.h hn2)
                    have HP1 := hid (fun (W : World) (h : Hp W b1 m1 v1 q1) => peek11_yes W m1 b1 m1 v1 q1 _ h.r hn1)
                    have HP3 := hid (fun (W : World) (h : Hp W b3 m3 v3 q3) => peek11_yes W m3 b3 m3 v3 q3 _ h.r hn3)
                    have HPO := hid (fun (W : World) (h : Hp W b3 m3 v3 q3) => pop11_yes W m3 b3 m3 v3 q3 _ h.r h.h hn3)
                    rw [hx] at HP2
                    have HFI := hid (fun (W : World) => first11_any W (it q1 0) (it q3 0))
                    rw [show decide (Bef (it q1 0) (it q3 0)) = false from decide_eq_false hbf] at HFI
                    obtain ⟨y, hy⟩ : ∃ y, y = it q1 0 := ⟨_, rfl⟩
                    obtain ⟨z, hz⟩ : ∃ y, y = it q3 0 := ⟨_, rfl⟩
                    rw [← hz] at HP2 HPO
                    rw [← hy] at HP1
                    rw [← hz] at HP3
                    rw [← hy, ← hz] at HFI
                    clear hy
                    obtain ⟨y0, y1', y2⟩ := y
                    clear hz
                    obtain ⟨z0, z1', z2⟩ := z
                    unfold itv at HP1 HP2 HP3 HPO HFI
                    dsimp only at HP1 HP2 HP3 HPO HFI
                    have HPV := hid HP.out
                    clear hx hn1 hn3 hq1 hq3 hbf
                    go_wp2_with fail
                    refine (HP2.out _ HTk.out.t.h2).mono ?_
                    rintro e s1 ⟨rfl, v2', q2', hr, hh, hpp, hkk, hoo⟩
                    have HT1 := hid (HTk.out.second ⟨hr, hh⟩ hkk (fun k hk => .inl (by rw [← hoo]; exact hk)))
                    have HPP := hid hpp
                    clear hr hh hpp hkk hoo
                    obtain ⟨s2, hs2⟩ : ∃ y, y = s1.alloc (.cells #[.int .u32 z0, .int .u8 z1', .int .u32 z2] 32) := ⟨_, rfl⟩
                    obtain ⟨g12, hg12⟩ : ∃ y, y = s1.heap.size := ⟨_, rfl⟩
                    have hbb : Below s1.heap.size s1 s2 := by rw [hs2]; exact (Below.refl _ _).alloc (Nat.le_refl _) _
                    have HX12 := hid (show s2.heap[g12]? = some (.cells #[.int .u32 z0, .int .u8 z1', .int .u32 z2] 32 (0, 0)) by rw [hs2, hg12]; exact heap_alloc_new s1 _)
                    have HNN12 := hid (show ∀ (b m : Nat) (v : Value) (q : List It), Hp s1 b m v q → ¬ Hb b m v g12 from fun _ _ _ _ h => h.not_new (by omega))
                    have HT2 := hid (HT1.out.below hbb)
                    go_wp2_with fail
                    rw [← hs2, ← hg12]
                    clear hs2 hg12 hbb
                    refine (HP1.out _ HT2.out.t.h1).mono ?_
                    rintro e s3 ⟨rfl, hb⟩
                    have HT3 := hid (HT2.out.below hb)
                    have HX12 := hid ((hb.block _ (Array.getElem?_eq_some_iff.1 HX12.out).1).trans HX12.out)
                    clear hb
                    obtain ⟨s4, hs4⟩ : ∃ y, y = s3.alloc (.cells #[.int .u32 y0, .int .u8 y1', .int .u32 y2] 32) := ⟨_, rfl⟩
                    obtain ⟨g14, hg14⟩ : ∃ y, y = s3.heap.size := ⟨_, rfl⟩
                    have hbb : Below s3.heap.size s3 s4 := by rw [hs4]; exact (Below.refl _ _).alloc (Nat.le_refl _) _
                    have HX14 := hid (show s4.heap[g14]? = some (.cells #[.int .u32 y0, .int .u8 y1', .int .u32 y2] 32 (0, 0)) by rw [hs4, hg14]; exact heap_alloc_new s3 _)
                    have HNN14 := hid (show ∀ (b m : Nat) (v : Value) (q : List It), Hp s3 b m v q → ¬ Hb b m v g14 from fun _ _ _ _ h => h.not_new (by omega))
                    have HT4 := hid (HT3.out.below hbb)
                    have HG14 := hid (show w.heap.size ≤ g14 by rw [hg14]; exact HT3.out.t.bel.size)
                    have hg1214 : g12 < g14 := by rw [hg14]; exact (Array.getElem?_eq_some_iff.1 HX12.out).1
                    have HX12 := hid ((hbb.block _ (Array.getElem?_eq_some_iff.1 HX12.out).1).trans HX12.out)
                    go_wp2_with fail
                    rw [← hs4, ← hg14]
                    clear hs4 hg14 hbb
                    refine (HP3.out _ HT4.out.h3).mono ?_
                    rintro e s5 ⟨rfl, hb⟩
                    have HT5 := hid (HT4.out.below hb)
                    have HX12 := hid ((hb.block _ (Array.getElem?_eq_some_iff.1 HX12.out).1).trans HX12.out)
                    have HX14 := hid ((hb.block _ (Array.getElem?_eq_some_iff.1 HX14.out).1).trans HX14.out)
                    clear hb
                    obtain ⟨s6, hs6⟩ : ∃ y, y = s5.alloc (.cells #[.int .u32 z0, .int .u8 z1', .int .u32 z2] 32) := ⟨_, rfl⟩
                    obtain ⟨g16, hg16⟩ : ∃ y, y = s5.heap.size := ⟨_, rfl⟩
                    have hbb : Below s5.heap.size s5 s6 := by rw [hs6]; exact (Below.refl _ _).alloc (Nat.le_refl _) _
                    have HX16 := hid (show s6.heap[g16]? = some (.cells #[.int .u32 z0, .int .u8 z1', .int .u32 z2] 32 (0, 0)) by rw [hs6, hg16]; exact heap_alloc_new s5 _)
                    have HNN16 := hid (show ∀ (b m : Nat) (v : Value) (q : List It), Hp s5 b m v q → ¬ Hb b m v g16 from fun _ _ _ _ h => h.not_new (by omega))
                    have HT6 := hid (HT5.out.below hbb)
                    have hg1416 : g14 < g16 := by rw [hg16]; exact (Array.getElem?_eq_some_iff.1 HX14.out).1
                    have HX12 := hid ((hbb.block _ (Array.getElem?_eq_some_iff.1 HX12.out).1).trans HX12.out)
                    have HX14 := hid ((hbb.block _ (Array.getElem?_eq_some_iff.1 HX14.out).1).trans HX14.out)
                    rw [hs6] at HX14 HX16
                    have a0 : (s5.alloc (.cells #[.int .u32 z0, .int .u8 z1', .int .u32 z2] 32)).cell? ⟨g14, 0, none⟩ = some (.int .u32 y0) := (cell_of_row _ _ _ _ _ _ HX14.out).trans rfl
                    have a1 : (s5.alloc (.cells #[.int .u32 z0, .int .u8 z1', .int .u32 z2] 32)).cell? ⟨g14, 1, none⟩ = some (.int .u8 y1') := (cell_of_row _ _ _ _ _ _ HX14.out).trans rfl
                    have a2 : (s5.alloc (.cells #[.int .u32 z0, .int .u8 z1', .int .u32 z2] 32)).cell? ⟨g14, 2, none⟩ = some (.int .u32 y2) := (cell_of_row _ _ _ _ _ _ HX14.out).trans rfl
                    have c0 : (s5.alloc (.cells #[.int .u32 z0, .int .u8 z1', .int .u32 z2] 32)).cell? ⟨g16, 0, none⟩ = some (.int .u32 z0) := (cell_of_row _ _ _ _ _ _ HX16.out).trans rfl
                    have c1 : (s5.alloc (.cells #[.int .u32 z0, .int .u8 z1', .int .u32 z2] 32)).cell? ⟨g16, 1, none⟩ = some (.int .u8 z1') := (cell_of_row _ _ _ _ _ _ HX16.out).trans rfl
                    have c2 : (s5.alloc (.cells #[.int .u32 z0, .int .u8 z1', .int .u32 z2] 32)).cell? ⟨g16, 2, none⟩ = some (.int .u32 z2) := (cell_of_row _ _ _ _ _ _ HX16.out).trans rfl
                    rw [← hs6] at HX14 HX16
                    have HS6 := hid hs6
                    have HG16 := hid hg16
                    rw [hg16] at c0 c1 c2
                    go_wp2_with fail
                    rw [← HS6.out]
                    rw [← HG16.out]
                    clear HS6 HG16 hs6 hg16 hbb a0 a1 a2 c0 c1 c2
                    refine (HFI.out s6).mono ?_
                    rintro e s7 ⟨rfl, hb⟩
                    have HT7 := hid (HT6.out.below hb)
                    have HX12 := hid ((hb.block _ (Array.getElem?_eq_some_iff.1 HX12.out).1).trans HX12.out)
                    have HX14 := hid ((hb.block _ (Array.getElem?_eq_some_iff.1 HX14.out).1).trans HX14.out)
                    have HX16 := hid ((hb.block _ (Array.getElem?_eq_some_iff.1 HX16.out).1).trans HX16.out)
                    clear hb
                    go_wp2_with fail
                    refine (HPO.out _ HT7.out.h3).mono ?_
                    rintro e s8 ⟨rfl, v3', q3', hr, hh, hpp, hkk, hoo⟩
                    have HT8 := hid (HT7.out.third ⟨hr, hh⟩ hkk (fun k hk => .inl (by rw [← hoo]; exact hk)))
                    have HPF := hid (merge_dr HP.out hpp HPP.out)
                    have HGF := hid (show q2'.length < gk by have h1 := HPP.out.length_eq; rw [List.length_cons] at h1; have := HGK.out; omega)
                    have HX12 := hid ((hkk.block _ (Array.getElem?_eq_some_iff.1 HX12.out).1 (HNN12.out _ _ _ _ HT1.out.h3)).trans HX12.out)
                    have HX14 := hid ((hkk.block _ (Array.getElem?_eq_some_iff.1 HX14.out).1 (HNN14.out _ _ _ _ HT3.out.h3)).trans HX14.out)
                    have HX16 := hid ((hkk.block _ (Array.getElem?_eq_some_iff.1 HX16.out).1 (HNN16.out _ _ _ _ HT5.out.h3)).trans HX16.out)
                    have HNP := hid (show ¬ Hb b3 m3 v3' g14 from fun h => HNN14.out _ _ _ _ HT3.out.h3 (h.own hoo))
                    clear hr hh hpp hkk hoo
                    have a0 : s8.cell? ⟨g12, 0, none⟩ = some (.int .u32 z0) := (cell_of_row _ _ _ _ _ _ HX12.out).trans rfl
                    have a1 : s8.cell? ⟨g12, 1, none⟩ = some (.int .u8 z1') := (cell_of_row _ _ _ _ _ _ HX12.out).trans rfl
                    have a2 : s8.cell? ⟨g12, 2, none⟩ = some (.int .u32 z2) := (cell_of_row _ _ _ _ _ _ HX12.out).trans rfl
                    have c0 : s8.cell? ⟨g14, 0, none⟩ = some (.int .u32 y0) := (cell_of_row _ _ _ _ _ _ HX14.out).trans rfl
                    have c1 : s8.cell? ⟨g14, 1, none⟩ = some (.int .u8 y1') := (cell_of_row _ _ _ _ _ _ HX14.out).trans rfl
                    have c2 : s8.cell? ⟨g14, 2, none⟩ = some (.int .u32 y2) := (cell_of_row _ _ _ _ _ _ HX14.out).trans rfl
                    have d0 : s8.cell? ⟨g16, 0, none⟩ = some (.int .u32 z0) := (cell_of_row _ _ _ _ _ _ HX16.out).trans rfl
                    have d1 : s8.cell? ⟨g16, 1, none⟩ = some (.int .u8 z1') := (cell_of_row _ _ _ _ _ _ HX16.out).trans rfl
                    have d2 : s8.cell? ⟨g16, 2, none⟩ = some (.int .u32 z2) := (cell_of_row _ _ _ _ _ _ HX16.out).trans rfl
                    have f0 : s8.frozen? ⟨g14, 0, none⟩ = false := frozen_of_row _ _ _ _ _ HX14.out
                    have f1 : s8.frozen? ⟨g14, 1, none⟩ = false := frozen_of_row _ _ _ _ _ HX14.out
                    have f2 : s8.frozen? ⟨g14, 2, none⟩ = false := frozen_of_row _ _ _ _ _ HX14.out
                    have hne : g12 ≠ g14 := by omega
                    have hne' : g14 ≠ g16 := by omega
                    obtain ⟨s9, hs9⟩ : ∃ s, s = ((s8.setCell ⟨g14, 0, none⟩ (.int .u32 z0)).setCell ⟨g14, 1, none⟩ (.int .u8 z1')).setCell ⟨g14, 2, none⟩ (.int .u32 z2) := ⟨_, rfl⟩
                    have hk9 : Keeps (fun k => k = g14) s8 s9 := by
                      have k0 : Keeps (fun k => k = g14) s8 s8 := ⟨rfl, rfl, rfl, Nat.le_refl _, fun _ _ _ => rfl⟩
                      rw [hs9]
                      exact ((k0.setCell (p := ⟨g14, 0, none⟩) (fun _ => rfl) _).setCell (p := ⟨g14, 1, none⟩) (fun _ => rfl) _).setCell (p := ⟨g14, 2, none⟩) (fun _ => rfl) _
                    have HX14' := hid (show s9.heap[g14]? = some (.cells #[.int .u32 z0, .int .u8 z1', .int .u32 z2] 32 (0, 0)) by rw [hs9]; exact set3_heap HX14.out)
                    have HX12' := hid ((hk9.block g12 (Array.getElem?_eq_some_iff.1 HX12.out).1 (by omega)).trans HX12.out)
                    have HT9 := hid (HT8.out.box hk9 HG14.out (HNN14.out _ _ _ _ HT3.out.t.h1) (HNN14.out _ _ _ _ HT3.out.t.h2) HNP.out)
                    clear hk9
                    have i0 : s9.cell? ⟨g12, 0, none⟩ = some (.int .u32 z0) := (cell_of_row _ _ _ _ _ _ HX12'.out).trans rfl
                    have i1 : s9.cell? ⟨g12, 1, none⟩ = some (.int .u8 z1') := (cell_of_row _ _ _ _ _ _ HX12'.out).trans rfl
                    have i2 : s9.cell? ⟨g12, 2, none⟩ = some (.int .u32 z2) := (cell_of_row _ _ _ _ _ _ HX12'.out).trans rfl
                    have j0 : s9.cell? ⟨g14, 0, none⟩ = some (.int .u32 z0) := (cell_of_row _ _ _ _ _ _ HX14'.out).trans rfl
                    have j1 : s9.cell? ⟨g14, 1, none⟩ = some (.int .u8 z1') := (cell_of_row _ _ _ _ _ _ HX14'.out).trans rfl
                    have j2 : s9.cell? ⟨g14, 2, none⟩ = some (.int .u32 z2) := (cell_of_row _ _ _ _ _ _ HX14'.out).trans rfl
                    go_upto_region 29 with (fail)
                    rw [← hs9]
                    clear hs9
                    go_wp2_with fail
                    go_roundg q2'.length
                    case measure => exact HGF.out
                    case rel => exact ⟨_, _, _, _, _, _, rfl, HT9.out, HPF.out⟩

/-! ### THE ROW's STEP -/
set_option maxRecDepth 100000 in
theorem lifted (os : Os) (started : os.Started) (H : Type) (enc : TypeId × Value → H) :
    ReturnsInHanded {} Try.checked os 6 .any (Rows.prioMergeSpec.pre6 enc Try.prog Try.f6 Rows.prioMergeRow.domain false) (Rows.prioMergeSpec.post enc Try.prog Try.f6 false true false false) := by
  refine returnsInHanded_of_change (C := Try.checked) own started (by kernel_rfl) Try.func6
    (ChangeSpec.witness6 (enc := enc) (C := Try.checked) false ⟨#[], #[.slice none 0 0, .slice none 0 0], []⟩ 8 (by kernel_rfl) (by kernel_rfl) (by kernel_rfl) (by kernel_rfl)) ?_
  intro W base args ds gs before hval0 hW hcnd _
  have hval : ∀ (j : Nat) t v, Try.f6.params[j]? = some t → args[j]? = some v → Value.okWide Try.prog W .any base t v := hval0
  have hW' := hW
  obtain ⟨p, q, hA0, hV, rfl, hfz, hnd⟩ := hW
  have hA : DataW.TrodAll enc Try.prog W 0 (fun _ => true) true Try.f6.params.toList args.toList ds p := hA0
  rw [Try.params6] at hA hval
  obtain ⟨v0, vs0, d0, ds0, p0, q0, hargs, rfl, rfl, h0, r0⟩ := trodAll_cons hA
  obtain ⟨v1, vs1, d1, ds1, p1, q1, rfl, rfl, rfl, h1, r1⟩ := trodAll_cons r0
  obtain ⟨rfl, rfl, rfl⟩ := trodAll_nil r1
  obtain rfl : args = #[v0, v1] := by cases args; simp_all
  obtain ⟨rfl, rfl⟩ := trodVars_none hV
  have k0 := h0
  have lt0 : ∀ x ∈ p0, x.block < W.heap.size := by obtain ⟨m, hm⟩ := k0; exact DataW.trod_lt m _ _ _ hm
  have k1 := h1
  have lt1 : ∀ x ∈ p1, x.block < W.heap.size := by obtain ⟨m, hm⟩ := k1; exact DataW.trod_lt m _ _ _ hm
  obtain ⟨a0, len0, cap0, rfl⟩ := okWide_slice Try.underlying26 (hval 0 26 v0 rfl rfl)
  have w0 : IsItems W a0 len0 cap0 := isItems_of h0
  obtain ⟨a1, len1, cap1, rfl⟩ := okWide_slice Try.underlying26 (hval 1 26 v1 rfl rfl)
  have w1 : IsItems W a1 len1 cap1 := isItems_of h1
  clear hA0 hval0
  refine (walk a0 len0 cap0 a1 len1 cap1 W w0 w1).mono fun e W' ⟨he, bel⟩ => ?_
  subst he
  exact ⟨_, rfl, _, _, _, [], _, [], hW', trodAll_mk1 (shut_bool Try.underlying4 _), (trodAll_cons_mk (Below.trod laidOut (by kernel_rfl) (of_decide_eq_true (by kernel_rfl)) k0 bel lt0) (trodAll_cons_mk (Below.trod laidOut (by kernel_rfl) (of_decide_eq_true (by kernel_rfl)) k1 bel lt1) trodAll_mk0)), rfl, bel.frame _, fun h => by cases h⟩

theorem over : Rows.prioMergeRow.holds Try.pinned (OpenSpec.ofChange Rows.prioMergeSpec) :=
  OpenClaim.holds_of_wide 6 Try.f6 rfl rfl rfl rfl rfl rfl rfl ⟨rfl, rfl, rfl, rfl, rfl⟩ rfl rfl rfl rfl rfl (by kernel_rfl) Try.func6 (by kernel_rfl)
    (of_decide_eq_true (by kernel_rfl)) (by unfold Func.isWrapper; first | (rw [if_pos (by decide +kernel)]; kernel_rfl) | (rw [if_neg (by decide +kernel)]; exact ⟨rfl, rfl⟩))
    (fun os started H enc _ => lifted os started H enc)

/-- THE STATEMENT -/
theorem prioMerge_holds : Rows.PrioMergeSaid := over
#print axioms prioMerge_holds
end Go.Proofs.Ytbcpcoknlcocdaa.prioMerge
