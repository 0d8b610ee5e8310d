/-
  Every script of places that are taken, marked and freed of a map has the document's answers: for any number of places and any script of numbers; no conditions.
  (The frame behind the walk is the guide's shell, at these parameters.)
-/
import Derived.Test.YtbagpckiegpalaaRows
import Derived.WalkKit
import Derived.Test.YtbagpckiegpalaaBmO
import Derived.ProofKit
import Derived.Deep.Cut
import Derived.Deep.CutRange
import Derived.Deep.CutBlock
import Derived.Deep.Grids
import Derived.OpenShut
import Derived.ShutString
import Derived.ChangeOld
import Derived.Below
namespace Go.Proofs.Ytbagpckiegpalaa.blockMaps
open Go.ChangeShapes Go.WideShapes Go.ChangeAt Go.RowKit
open Go.ChangeMaps (open_string shut_string)
set_option linter.unusedVariables false

theorem own : ownKnob Try.prog.godebug = none := by kernel_rfl
theorem laidOut : laidOutB Try.prog = true := by kernel_rfl

set_option linter.unusedSimpArgs false
/-- Between the script's steps: T tells what is taken. -/
def BmRel (x1 : World) (b tb M : Nat) (T : List Bool) (wr : World) : Prop :=
  T.length = M ∧ MpAt wr x1.heap.size b T ∧ TkRow wr tb T ∧ Below x1.heap.size x1 wr
theorem wrap_quo (z : Int) (h1 : -9223372036854775808 ≤ z) (h2 : z ≤ 9223372036854775807) : wrap64 (z.tdiv 4) = z.tdiv 4 := by
  have h : -9223372036854775808 ≤ z.tdiv 4 ∧ z.tdiv 4 ≤ 9223372036854775807 := by
    by_cases h0 : 0 ≤ z
    · rw [Int.tdiv_eq_ediv_of_nonneg h0]; omega
    · obtain ⟨y, rfl⟩ : ∃ y, z = -y := ⟨-z, by omega⟩
      rw [Int.neg_tdiv, Int.tdiv_eq_ediv_of_nonneg (by omega)]; omega
  unfold wrap64
  omega
theorem iw1 (k : Nat) (h : k ≤ 1000001) : IntKind.i64.wrap ((k : Int) + 1) = (k : Int) + 1 := by
  rw [IntKind.wrap_i64]; omega
theorem set_same (T : List Bool) (p : Nat) (t : Bool) (h : T[p]? = some t) : T.set p t = T := by
  obtain ⟨hl, hv⟩ := List.getElem?_eq_some_iff.1 h
  rw [← hv]
  exact List.set_getElem_self hl
theorem bool_at (T : List Bool) (p : Nat) (h : p < T.length) (hn : T[p]? ≠ some false) : T[p]? = some true := by
  rw [List.getElem?_eq_getElem h] at hn ⊢
  cases hx : T[p] with
  | true => rfl
  | false => rw [hx] at hn; exact absurd rfl hn
/-- While what Take told is gone through. -/
def TkLoop (w2 : World) (tb M c : Nat) (F : List (Int × Int)) (j t : Nat) (wr : World) : Prop :=
  ∃ Tt : List Bool, Tt.length = M ∧ TkRow wr tb Tt ∧ (∀ p : Nat, p < M → (Tt[p]? = some false ↔ FreeIn (takeR F t) (p : Int))) ∧ (∀ p : Nat, p < j → Tt[p]? = some true) ∧ Tt.count false + t = c ∧ Keeps (fun k => k = tb) w2 wr
theorem count_take (T : List Bool) (i : Nat) (t : Bool) (h : T[i]? = some t) : (T.take (i + 1)).count false = (T.take i).count false + (if t then 0 else 1) := by
  obtain ⟨hl, hv⟩ := List.getElem?_eq_some_iff.1 h
  rw [List.take_succ_eq_append_getElem hl, List.count_append, hv]
  cases t <;> simp
set_option maxRecDepth 100000 in
set_option maxHeartbeats 8000000 in
theorem walk (a0 : Int) (a1 : Option Addr) (len1 cap1 : Nat) (z1 : List Int) (w : World) (w0 : (Lit.int .i64 a0).wf = true) (w1 : IsRow .i64 w a1 len1 cap1 z1) :
    Calls Try.prog 6 #[.int .i64 a0, .slice a1 len1 cap1] w fun e w' => e = .returned (.bool true) ∧ Below w.heap.size w w' := by
  obtain ⟨n0, hn0⟩ : ∃ n : Int, n = (if a0 < 60 then a0 else 60) := ⟨_, rfl⟩
  obtain ⟨M, hM⟩ : ∃ M : Nat, M = n0.toNat := ⟨_, rfl⟩
  have hM60 : M ≤ 60 := by split at hn0 <;> omega
  have HMIN := hid (show (if 60 < a0 then (60 : Int) else a0) = n0 ∧ (if a0 < 60 then a0 else (60 : Int)) = n0 from ⟨by rw [hn0]; split <;> split <;> omega, hn0.symm⟩)
  have HMAX := hid (show (if n0 < 0 then (0 : Int) else n0) = (M : Int) ∧ (if 0 < n0 then n0 else (0 : Int)) = (M : Int) from ⟨by split <;> omega, by split <;> omega⟩)
  have HMT := hid hM
  have HM60 := hid hM60
  obtain ⟨hlc, hcm, -⟩ := w1.bounds
  have HROW := hid w1
  have HB0 := hid (bounds_i64 w0)
  clear w1 w0 hn0 hM hM60
  go_enter Try.func6, Try.ntmps6
  go_wp2_with fail
  refine (awake6_any w).mono ?_
  rintro e x1 ⟨rfl, hba⟩
  have HBA := hid hba
  clear hba
  have k1 := HMIN.out.1
  have k2 := HMIN.out.2
  go_upto_region 4 with fail
  clear k1 k2
  go_upto_region 6 with (first
    | (go_at_call 32; refine (newmap_any x1 n0 M HMT.out).mono ?_; rintro e x2 ⟨b, rfl, hm2, hb2⟩)
    | fail)
  have k1 := HMAX.out.1
  have k2 := HMAX.out.2
  have k3 := mkbool60 M HM60.out x2
  obtain ⟨bs, hbs⟩ : ∃ bs, bs = ((List.replicate M false).map Value.bool).toArray := ⟨_, rfl⟩
  rw [← hbs] at k3
  have HBS := hid hbs
  clear hbs
  go_upto_region 7 with fail
  clear k1 k2 k3
  obtain ⟨tb, htb⟩ : ∃ tb, tb = x2.heap.size := ⟨_, rfl⟩
  obtain ⟨x3, hx3⟩ : ∃ z, z = x2.alloc (.cells bs 4) := ⟨_, rfl⟩
  have hb3 : Below x2.heap.size x2 x3 := by rw [hx3]; exact (Below.refl _ _).alloc (Nat.le_refl _) _
  have HT0 := hid (show BmRel x1 b tb M (List.replicate M false) x3 from ⟨by simp, hm2.below hb3, by rw [hx3, htb, HBS.out]; exact heap_alloc_new _ _, hb2.trans (hb3.mono hb2.size)⟩)
  have HTB := hid (show x1.heap.size ≤ tb by have := hb2.size; omega)
  rw [← hx3, ← htb]
  clear hx3 htb hb3 hm2 hb2
  go_wp2_with fail
  go_loopw [35] (fun vi wr => ∃ (k : Nat) (T : List Bool), k ≤ len1 ∧ k ≤ 80 ∧ vi = .int .i64 k ∧ BmRel x1 b tb M T wr) (fun vi _ => len1 - (intOf vi).toNat)
  case atStart => exact ⟨0, _, Nat.zero_le _, Nat.zero_le _, rfl, HT0.out⟩
  case round =>
    obtain ⟨k, T, hk1, hk2, rfl, hR⟩ := hrel
    have HR := hid hR
    clear hR HT0
    by_cases hlt : k < len1
    · have hkl : (k : Int) < (len1 : Int) := by omega
      by_cases h80 : k < 80
      · have h80i : decide ((k : Int) ≥ 80) = false := decide_eq_false (by omega)
        have h80n : ¬ (80 : Int) ≤ (k : Int) := by omega
        obtain ⟨sb, so, hsa, hsc, hz1, hz2⟩ := ints_at HROW.out (HBA.out.trans (HR.out.2.2.2.mono HBA.out.size)) hlt
        subst hsa
        obtain ⟨z, hz⟩ : ∃ z, z = z1.getD k 0 := ⟨_, rfl⟩
        rw [← hz] at hsc hz1 hz2
        clear hz
        go_upto_region 13 with fail
        go_loop [10, 44] (fun x y => ∃ i : Nat, i ≤ M ∧ y = .int .i64 i ∧ x = .int .i64 ((T.take i).count false : Nat)) (fun _ y => M - (intOf y).toNat)
        case atStart => exact ⟨0, Nat.zero_le _, rfl, rfl⟩
        case round =>
          obtain ⟨i, hi, rfl, rfl⟩ := hrel
          by_cases hil : i < M
          · have hil2 : (i : Int) < (M : Int) := by omega
            have hwz := w64m1 i (by have := HM60.out; omega)
            have hwy : IntKind.i64.wrap ((i : Int) + 1) = (i : Int) + 1 := by have := HM60.out; rw [IntKind.wrap_i64]; omega
            obtain ⟨t, ht⟩ : ∃ t, T[i]? = some t := ⟨_, List.getElem?_eq_getElem (by have := HR.out.1; omega)⟩
            have hc := (HR.out.2.2.1.at i t ht).1
            have HC := hid (count_take T i t ht)
            have hle : (T.take i).count false ≤ 60 := by have := List.count_le_length (a := false) (l := T.take i); have := List.length_take_le i T; have := HM60.out; omega
            obtain ⟨cn, hcn⟩ : ∃ c, c = (T.take i).count false := ⟨_, rfl⟩
            rw [← hcn] at HC hle ⊢
            clear hcn ht
            cases t with
            | true =>
              go_wp2_with fail
              go_round
              case rel => exact ⟨i + 1, by omega, by go_num, by rw [HC.out]; rfl⟩
              case measure => simp [intOf]; omega
            | false =>
              go_wp2_with fail
              go_round
              case rel => exact ⟨i + 1, by omega, by go_num, by rw [HC.out]; go_num⟩
              case measure => simp [intOf]; omega
          · obtain rfl : M = i := by omega
            have hcT : (T.take M).count false = T.count false := by rw [List.take_of_length_le (by have := HR.out.1; omega)]
            rw [hcT]
            obtain ⟨c, hc⟩ : ∃ c, c = T.count false := ⟨_, rfl⟩
            rw [← hc]
            have HC := hid hc
            obtain ⟨q, hq⟩ : ∃ q, q = z.tdiv 4 := ⟨_, rfl⟩
            obtain ⟨r, hr⟩ : ∃ r, r = z.tmod 4 := ⟨_, rfl⟩
            have hq' := hq.symm
            have hwq : wrap64 q = q := by rw [hq]; exact wrap_quo z hz1 hz2
            have hr' := hr.symm
            clear hq hr hc hcT hi hil
            obtain ⟨inb, hinb⟩ : ∃ v : Bool, v = decide (0 ≤ q ∧ q < (M : Int)) := ⟨_, rfl⟩
            have HIN := hid hinb
            clear hinb
            go_upto_region 19 with fail
            simp only [hwq]
            go_cut [14] from 55 to 62 (fun v wx => v = .bool inb ∧ wx = wr)
            case first =>
              by_cases h1 : 0 ≤ q
              · by_cases h2 : q < (M : Int)
                · have e : inb = true := by rw [HIN.out]; exact decide_eq_true ⟨h1, h2⟩
                  subst e
                  go_wp2_with fail
                  go_meet
                  case rel => exact ⟨rfl, rfl⟩
                · have e : inb = false := by rw [HIN.out]; exact decide_eq_false (fun hh => h2 hh.2)
                  subst e
                  have d2 : decide (q < (M : Int)) = false := decide_eq_false h2
                  go_wp2_with fail
                  go_meet
                  case rel => exact ⟨rfl, rfl⟩
              · have e : inb = false := by rw [HIN.out]; exact decide_eq_false (fun hh => h1 hh.1)
                subst e
                have d1 : decide (q ≥ 0) = false := decide_eq_false h1
                go_wp2_with fail
                go_meet
                case rel => exact ⟨rfl, rfl⟩
            case rest =>
              obtain ⟨hv14, hwcx⟩ := hcut
              subst hv14
              have hwcx := hwcx.symm
              subst hwcx
              go_upto_block 4 with fail
              go_cut [] from 65 to 174 (fun wx => ∃ T', BmRel x1 b tb M T' wx)
              case first =>
                have hparts : r = 0 ∨ r = 1 ∨ (r ≠ 0 ∧ r ≠ 1) := by omega
                rcases hparts with hr0 | hr0 | ⟨hr0, hr1⟩
                · as_aux_lemma =>
                  subst hr0
                  cases inb with
                  | true =>
                    have hq0 := of_decide_eq_true HIN.out.symm
                    obtain ⟨p, rfl⟩ : ∃ p : Nat, q = (p : Int) := ⟨q.toNat, by omega⟩
                    have hpM : p < M := by omega
                    have hpi : (p : Int) < (M : Int) := by omega
                    obtain ⟨t, hp⟩ : ∃ t, T[p]? = some t := ⟨_, List.getElem?_eq_getElem (by have := HR.out.1; omega)⟩
                    clear hq0
                    cases t with
                    | false =>
                      have HC1 := hid (mark_yes wr x1.heap.size b p T HR.out.2.1 (by rw [HR.out.1]; exact HM60.out) HR.out.2.2.2.size hp)
                      have HP := hid hp
                      go_upto_region 40 with (first
                        | (go_at_call 33; (with_reducible refine (HC1.out).mono ?_); rintro e w2 ⟨rfl, hm2, hkt⟩; have HT2 := hid (HR.out.2.2.1.kt hkt (by decide)); have hcc := (HT2.out.at p false HP.out).1; have hcf := (HT2.out.at p false HP.out).2; have HM2 := hid hm2; have HK2 := hid hkt; clear hm2 hkt)
                        | (go_at_call 33; (with_reducible refine (mark_nil _ _).mono ?_); rintro e w3 ⟨rfl, rfl⟩)
                        | fail)
                      go_wp2_with fail
                      go_meet
                      case rel => exact ⟨T.set p true, by rw [List.length_set]; exact HR.out.1, HM2.out.setTk HT2.out _, HT2.out.set p true, (HR.out.2.2.2.trans HK2.out.below).setCell (p := ⟨tb, p, none⟩) HTB.out _⟩
                    | true =>
                      have HC1 := hid (mark_no wr x1.heap.size b (p : Int) T HR.out.2.1 (by rw [HR.out.1]; exact HM60.out) (fun p' e => by
                        obtain rfl : p = p' := by omega
                        rw [hp]
                        simp))
                      have HP := hid hp
                      go_upto_region 40 with (first
                        | (go_at_call 33; (with_reducible refine (HC1.out).mono ?_); rintro e w2 ⟨rfl, hkt⟩; have HT2 := hid (HR.out.2.2.1.below hkt); have hcc := (HT2.out.at p true HP.out).1; have hcf := (HT2.out.at p true HP.out).2; have HK2 := hid hkt; clear hkt)
                        | (go_at_call 33; (with_reducible refine (mark_nil _ _).mono ?_); rintro e w3 ⟨rfl, rfl⟩)
                        | fail)
                      go_wp2_with fail
                      go_meet
                      case rel => exact ⟨T, HR.out.1, (HR.out.2.1.below HK2.out).setTk HT2.out _, by have := HT2.out.set p true; rw [set_same T p true HP.out] at this; exact this, (HR.out.2.2.2.trans (HK2.out.mono HR.out.2.2.2.size)).setCell (p := ⟨tb, p, none⟩) HTB.out _⟩
                  | false =>
                    have hq0 : ¬ (0 ≤ q ∧ q < (M : Int)) := of_decide_eq_false HIN.out.symm
                    have HC1 := hid (mark_no wr x1.heap.size b q T HR.out.2.1 (by rw [HR.out.1]; exact HM60.out) (fun p' e => by
                      rw [List.getElem?_eq_none (by have := HR.out.1; omega)]
                      simp))
                    clear hq0
                    go_upto_region 40 with (first
                      | (go_at_call 33; (with_reducible refine (HC1.out).mono ?_); rintro e w2 ⟨rfl, hkt⟩; have HK2 := hid hkt; clear hkt)
                      | (go_at_call 33; (with_reducible refine (mark_nil _ _).mono ?_); rintro e w3 ⟨rfl, rfl⟩)
                      | fail)
                    go_wp2_with fail
                    go_meet
                    case rel => exact ⟨T, HR.out.1, HR.out.2.1.below HK2.out, HR.out.2.2.1.below HK2.out, HR.out.2.2.2.trans (HK2.out.mono HR.out.2.2.2.size)⟩
                · as_aux_lemma =>
                  subst hr0
                  cases inb with
                  | true =>
                    have hq0 := of_decide_eq_true HIN.out.symm
                    obtain ⟨p, rfl⟩ : ∃ p : Nat, q = (p : Int) := ⟨q.toNat, by omega⟩
                    have hpM : p < M := by omega
                    have hpi : (p : Int) < (M : Int) := by omega
                    obtain ⟨t, hp⟩ : ∃ t, T[p]? = some t := ⟨_, List.getElem?_eq_getElem (by have := HR.out.1; omega)⟩
                    clear hq0
                    cases t with
                    | true =>
                      have HC1 := hid (free_yes wr x1.heap.size b p T HR.out.2.1 (by rw [HR.out.1]; exact HM60.out) HR.out.2.2.2.size hp)
                      have HP := hid hp
                      go_upto_region 45 with (first
                        | (go_at_call 34; (with_reducible refine (HC1.out).mono ?_); rintro e w2 ⟨rfl, hm2, hkt⟩; have HT2 := hid (HR.out.2.2.1.kt hkt (by decide)); have hcc := (HT2.out.at p true HP.out).1; have hcf := (HT2.out.at p true HP.out).2; have HM2 := hid hm2; have HK2 := hid hkt; clear hm2 hkt)
                        | (go_at_call 34; (with_reducible refine (free_nil _ _).mono ?_); rintro e w3 ⟨rfl, rfl⟩)
                        | fail)
                      go_wp2_with fail
                      go_meet
                      case rel => exact ⟨T.set p false, by rw [List.length_set]; exact HR.out.1, HM2.out.setTk HT2.out _, HT2.out.set p false, (HR.out.2.2.2.trans HK2.out.below).setCell (p := ⟨tb, p, none⟩) HTB.out _⟩
                    | false =>
                      have HC1 := hid (free_no wr x1.heap.size b (p : Int) T HR.out.2.1 (by rw [HR.out.1]; exact HM60.out) (fun p' e => by
                        obtain rfl : p = p' := by omega
                        rw [hp]
                        simp))
                      have HP := hid hp
                      go_upto_region 45 with (first
                        | (go_at_call 34; (with_reducible refine (HC1.out).mono ?_); rintro e w2 ⟨rfl, hkt⟩; have HT2 := hid (HR.out.2.2.1.below hkt); have hcc := (HT2.out.at p false HP.out).1; have hcf := (HT2.out.at p false HP.out).2; have HK2 := hid hkt; clear hkt)
                        | (go_at_call 34; (with_reducible refine (free_nil _ _).mono ?_); rintro e w3 ⟨rfl, rfl⟩)
                        | fail)
                      go_wp2_with fail
                      go_meet
                      case rel => exact ⟨T, HR.out.1, (HR.out.2.1.below HK2.out).setTk HT2.out _, by have := HT2.out.set p false; rw [set_same T p false HP.out] at this; exact this, (HR.out.2.2.2.trans (HK2.out.mono HR.out.2.2.2.size)).setCell (p := ⟨tb, p, none⟩) HTB.out _⟩
                  | false =>
                    have hq0 : ¬ (0 ≤ q ∧ q < (M : Int)) := of_decide_eq_false HIN.out.symm
                    have HC1 := hid (free_no wr x1.heap.size b q T HR.out.2.1 (by rw [HR.out.1]; exact HM60.out) (fun p' e => by
                      rw [List.getElem?_eq_none (by have := HR.out.1; omega)]
                      simp))
                    clear hq0
                    go_upto_region 45 with (first
                      | (go_at_call 34; (with_reducible refine (HC1.out).mono ?_); rintro e w2 ⟨rfl, hkt⟩; have HK2 := hid hkt; clear hkt)
                      | (go_at_call 34; (with_reducible refine (free_nil _ _).mono ?_); rintro e w3 ⟨rfl, rfl⟩)
                      | fail)
                    go_wp2_with fail
                    go_meet
                    case rel => exact ⟨T, HR.out.1, HR.out.2.1.below HK2.out, HR.out.2.2.1.below HK2.out, HR.out.2.2.2.trans (HK2.out.mono HR.out.2.2.2.size)⟩
                · as_aux_lemma =>
                  obtain ⟨wq, hwq0⟩ : ∃ x, x = wr := ⟨_, rfl⟩
                  subst hwq0
                  have e0 : (r == 0) = false := by rw [beq_eq_false_iff_ne]; exact hr0
                  have e1 : (r == 1) = false := by rw [beq_eq_false_iff_ne]; exact hr1
                  obtain ⟨F, hMF, hL, hcF⟩ := HR.out.2.1
                  have HCF := hid (show (c : Int) = runSum F by rw [HC.out]; exact hcF)
                  have HMF := hid hMF
                  have HL := hid hL
                  clear hwq hq' hr' hz1 hz2 hMF hL hcF
                  by_cases hq1 : q < 0 ∨ (c : Int) < q
                  · have HC1 := hid (take_no wq x1.heap.size b T.length q F HMF.out (by rw [HR.out.1]; exact HM60.out) (by have := HCF.out; omega))
                    rcases hq1 with hq1 | hq1
                    · have d1 : decide (q ≥ 0) = false := decide_eq_false (by omega)
                      go_upto_region 22 with (first
                        | (go_at_call 35; (with_reducible refine (HC1.out).mono ?_); rintro e w2 ⟨rfl, rfl⟩)
                        | fail)
                      go_wp2_with fail
                      go_loopw [17, 100] (fun x y wr => x = .int .i64 0 ∧ y = .int .i64 0 ∧ Keeps (fun _ => False) wq wr) (fun _ _ _ => 0)
                      case atStart => exact ⟨rfl, rfl, Keeps.refl _ _⟩
                      case round =>
                        obtain ⟨rfl, rfl, hkp⟩ := hrel
                        have HKP := hid hkp
                        clear hkp
                        go_wp2_with fail
                        refine (take_nil _ _).mono ?_
                        rintro e w3 ⟨rfl, rfl⟩
                        go_wp2_with fail
                        go_meet
                        case rel => exact ⟨T, HR.out.1, HR.out.2.1.below (HKP.out.below (Nat.le_refl _) (fun i h => h.elim)), HR.out.2.2.1.below (HKP.out.below (Nat.le_refl _) (fun i h => h.elim)), HR.out.2.2.2.trans ((HKP.out.below (Nat.le_refl _) (fun i h => h.elim)).mono HR.out.2.2.2.size)⟩
                    · have d1 : (0 : Int) ≤ q := by omega
                      have d2 : decide (q ≤ (c : Int)) = false := decide_eq_false (by omega)
                      go_upto_region 22 with (first
                        | (go_at_call 35; (with_reducible refine (HC1.out).mono ?_); rintro e w2 ⟨rfl, rfl⟩)
                        | fail)
                      go_wp2_with fail
                      go_loopw [17, 100] (fun x y wr => x = .int .i64 0 ∧ y = .int .i64 0 ∧ Keeps (fun _ => False) wq wr) (fun _ _ _ => 0)
                      case atStart => exact ⟨rfl, rfl, Keeps.refl _ _⟩
                      case round =>
                        obtain ⟨rfl, rfl, hkp⟩ := hrel
                        have HKP := hid hkp
                        clear hkp
                        go_wp2_with fail
                        refine (take_nil _ _).mono ?_
                        rintro e w3 ⟨rfl, rfl⟩
                        go_wp2_with fail
                        go_meet
                        case rel => exact ⟨T, HR.out.1, HR.out.2.1.below (HKP.out.below (Nat.le_refl _) (fun i h => h.elim)), HR.out.2.2.1.below (HKP.out.below (Nat.le_refl _) (fun i h => h.elim)), HR.out.2.2.2.trans ((HKP.out.below (Nat.le_refl _) (fun i h => h.elim)).mono HR.out.2.2.2.size)⟩
                  · obtain ⟨n, rfl⟩ : ∃ n : Nat, q = (n : Int) := ⟨q.toNat, by omega⟩
                    have hnc : (n : Int) ≤ (c : Int) := by omega
                    have hnc2 : decide ((n : Int) ≤ (c : Int)) = true := decide_eq_true hnc
                    have HNC := hid (show n ≤ c by omega)
                    have HC1 := hid (take_yes wq x1.heap.size b T.length n F HMF.out (by rw [HR.out.1]; exact HM60.out) HR.out.2.2.2.size (by have := HCF.out; omega))
                    clear hq1
                    go_upto_region 22 with (first
                      | (go_at_call 35; (with_reducible refine (HC1.out).mono ?_); rintro e w2 ⟨ua, uc, rfl, hm2, ho2, hk2⟩; have HM2 := hid hm2; have HO2 := hid ho2; have HK2 := hid hk2; clear hm2 ho2 hk2)
                      | fail)
                    go_wp2_with fail
                    have HT2 := hid (HR.out.2.2.1.kt HK2.out (by decide))
                    have HS0 := hid (show TkLoop w2 tb M c F 0 0 w2 from ⟨T, HR.out.1, HT2.out, fun p hp => by rw [(takeR_zero HMF.out.1).1]; exact HL.out p (by rw [HR.out.1]; exact hp), fun p hp => absurd hp (Nat.not_lt_zero _), by rw [HC.out]; rfl, Keeps.refl _ _⟩)
                    clear hnc hnc2
                    go_loopw [17, 100] (fun x y wr => ∃ j t : Nat, x = .int .i64 j ∧ y = .int .i64 t ∧ t ≤ n ∧ j ≤ M ∧ TkLoop w2 tb M c F j t wr) (fun _ y _ => n - (intOf y).toNat)
                    case atStart => exact ⟨0, 0, rfl, rfl, Nat.zero_le _, Nat.zero_le _, HS0.out⟩
                    case round =>
                      obtain ⟨j, t, rfl, rfl, htn, hjM, Tt, hTl, hTr, hLk, hJ, hcn, hkp⟩ := hrel
                      have HTL := hid hTl
                      have HTR := hid hTr
                      have HLK := hid hLk
                      have HJ := hid hJ
                      have HCN := hid hcn
                      have HKP := hid hkp
                      clear hTl hTr hLk hJ hcn hkp HS0
                      by_cases hlt2 : t < n
                      · have hti : (t : Int) < (n : Int) := by omega
                        obtain ⟨p, hpM, hpl, hpf, hpn, hpz⟩ := firsts_next (t := t) HMF.out.1 (by have := HCF.out; have := HNC.out; omega) hlt2
                        have hpM2 : p < M := by have := HR.out.1; omega
                        obtain ⟨g, rfl⟩ : ∃ g, ua = some ⟨g, 0, none⟩ := by
                          rcases owns_shape HO2.out with ⟨_, e⟩ | ⟨g, cap, e, _⟩
                          · omega
                          · simp only [Value.slice.injEq] at e
                            exact ⟨g, e.1⟩
                        have how : wr.ownsRow wq.heap.size 3 1 (.slice (some ⟨g, 0, none⟩) n uc) n ((firstsR F n).map (Value.int .i64)) := owns_by HO2.out (fun q hq => HKP.out.block q (World.ownsRow.lt HO2.out q hq).2 (owns_ne HO2.out HT2.out (by decide) q hq))
                        have hlc2 : wr.cell? ⟨g, t, none⟩ = some (.int .i64 (p : Int)) := by
                          have := World.ownsRow.cells how (g := g) rfl t (.int .i64 (p : Int)) (by rw [List.getElem?_map, hpl]; rfl)
                          rwa [Addr.add_lit, Nat.zero_add] at this
                        have hTp : Tt[p]? = some false := (HLK.out p hpM2).2 hpf
                        have hbel : ∀ q : Nat, q < p → Tt[q]? = some true := fun q hq => bool_at Tt q (by have := HTL.out; omega) (fun hh => hpn q hq ((HLK.out q (by omega)).1 hh))
                        have hjp : j ≤ p := by
                          rcases Nat.lt_or_ge p j with hh | hh
                          · have := HJ.out p hh; rw [hTp] at this; cases this
                          · exact hh
                        have HPZ := hid hpz
                        have HTP := hid hTp
                        have HBL := hid hbel
                        have HPM := hid hpM2
                        have hpmi : (p : Int) < (M : Int) := by omega
                        have htb : t ≤ 1000001 := by have := HNC.out; have := HM60.out; have := HC.out; have := List.count_le_length (a := false) (l := T); have := HR.out.1; omega
                        have HTB2 := hid htb
                        have HPB := hid (show p ≤ 1000001 by have := HM60.out; omega)
                        clear htb
                        clear hpM hpl hpf hpn hpz how hTp hbel
                        go_upto_region 28 with fail
                        go_loop [17] (fun x => ∃ j' : Nat, j ≤ j' ∧ j' ≤ p ∧ x = .int .i64 j') (fun x => p - (intOf x).toNat)
                        case atStart => exact ⟨j, Nat.le_refl _, hjp, rfl⟩
                        case round =>
                          obtain ⟨j', hj1, hj2, rfl⟩ := hrel
                          have hjm : (j' : Int) < (M : Int) := by omega
                          by_cases hjl : j' < p
                          · have hcj := (HTR.out.at j' true (HBL.out j' hjl)).1
                            have hjw := w64m1 j' (Nat.le_trans hj2 HPB.out)
                            have hjw2 := iw1 j' (Nat.le_trans hj2 HPB.out)
                            go_wp2_with fail
                            clear hjw hjw2
                            go_round
                            case rel => exact ⟨j' + 1, by omega, by omega, by go_num⟩
                            case measure => simp [intOf]; omega
                          · obtain rfl : p = j' := by omega
                            have hcj := (HTR.out.at p false HTP.out).1
                            have hfj := (HTR.out.at p false HTP.out).2
                            have hwt := w64m1 t HTB2.out
                            have hwt2 := iw1 t HTB2.out
                            go_wp2_with fail
                            clear hwt hwt2
                            go_roundw
                            case rel =>
                              refine ⟨p, t + 1, rfl, by go_num, by omega, by have := HPM.out; omega, Tt.set p true, by rw [List.length_set]; exact HTL.out, HTR.out.set p true, ?_, ?_, ?_, HKP.out.setCell (p := ⟨tb, p, none⟩) (fun _ => rfl) _⟩
                              · intro q hq
                                rw [HPZ.out, ← HLK.out q hq, List.getElem?_set]
                                by_cases e : p = q
                                · subst e
                                  simp only [if_true, ne_eq, not_true_eq_false, and_false, iff_false]
                                  split <;> simp
                                · rw [if_neg e]
                                  have : (q : Int) ≠ (p : Int) := by omega
                                  simp [this]
                              · intro q hq
                                rw [List.getElem?_set, if_neg (by omega)]
                                exact HBL.out q hq
                              · have := count_set_true Tt p HTP.out
                                have := HCN.out
                                omega
                            case measure => simp [intOf]; omega
                      · obtain rfl : n = t := by omega
                        go_wp2_with fail
                        refine (take_nil _ _).mono ?_
                        rintro e w3 ⟨rfl, rfl⟩
                        go_wp2_with fail
                        go_meet
                        case rel =>
                          have hKb : Below x1.heap.size w2 wr := HKP.out.below (Nat.le_trans HR.out.2.2.2.size HK2.out.below.size) (fun i e => by subst e; exact HTB.out)
                          refine ⟨Tt, HTL.out, ⟨takeR F n, ?_, fun p hp => HLK.out p (by rw [← HTL.out]; exact hp), ?_⟩, HTR.out, (HR.out.2.2.2.trans HK2.out.below).trans hKb⟩
                          · rw [HTL.out]
                            have := HM2.out
                            rw [HR.out.1] at this
                            refine this.keep fun k cs ty hk hts => HKP.out.block k (Array.getElem?_eq_some_iff.1 hk).1 (fun e => ?_)
                            subst e
                            have h0 := HT2.out
                            unfold TkRow at h0
                            rw [h0] at hk
                            simp only [Option.some.injEq, Obj.cells.injEq] at hk
                            obtain ⟨_, rfl, _⟩ := hk
                            simp [mapTs] at hts
                          · rw [(takeR_runs (n := n) HMF.out.1 (by have := HCF.out; have := HNC.out; omega)).2.2.1]
                            have := HCN.out; have := HCF.out; omega
              case rest =>
                obtain ⟨T', hR'⟩ := hcut
                obtain ⟨wn, hwn⟩ : ∃ x, x = wc := ⟨_, rfl⟩
                subst hwn
                have HR' := hid hR'
                clear hR' HC hwq hq' hr' hz1 hz2
                go_wp2_with fail
                go_loop [10, 177] (fun x y => ∃ i : Nat, i ≤ M ∧ y = .int .i64 i ∧ x = .int .i64 ((T'.take i).count false : Nat)) (fun _ y => M - (intOf y).toNat)
                case atStart => exact ⟨0, Nat.zero_le _, rfl, rfl⟩
                case round =>
                  obtain ⟨i, hi, rfl, rfl⟩ := hrel
                  by_cases hil : i < M
                  · have hil2 : (i : Int) < (M : Int) := by omega
                    have hwz := w64m1 i (by have := HM60.out; omega)
                    have hwy : IntKind.i64.wrap ((i : Int) + 1) = (i : Int) + 1 := by have := HM60.out; rw [IntKind.wrap_i64]; omega
                    obtain ⟨t, ht⟩ : ∃ t, T'[i]? = some t := ⟨_, List.getElem?_eq_getElem (by have := HR'.out.1; omega)⟩
                    have hc := (HR'.out.2.2.1.at i t ht).1
                    have HC := hid (count_take T' i t ht)
                    have hle : (T'.take i).count false ≤ 60 := by have := List.count_le_length (a := false) (l := T'.take i); have := List.length_take_le i T'; have := HM60.out; omega
                    obtain ⟨cn, hcn⟩ : ∃ c, c = (T'.take i).count false := ⟨_, rfl⟩
                    rw [← hcn] at HC hle ⊢
                    clear hcn ht
                    cases t with
                    | true =>
                      go_wp2_with fail
                      go_round
                      case rel => exact ⟨i + 1, by omega, by go_num, by rw [HC.out]; rfl⟩
                      case measure => simp [intOf]; omega
                    | false =>
                      go_wp2_with fail
                      go_round
                      case rel => exact ⟨i + 1, by omega, by go_num, by rw [HC.out]; go_num⟩
                      case measure => simp [intOf]; omega
                  · obtain rfl : M = i := by omega
                    have hcT : (T'.take M).count false = T'.count false := by rw [List.take_of_length_le (by have := HR'.out.1; omega)]
                    rw [hcT]
                    obtain ⟨F, hMF, hL, hcF⟩ := HR'.out.2.1
                    have hlf := left_all wn x1.heap.size b T'.length F hMF
                    rw [← hcF] at hlf
                    obtain ⟨c', hc'⟩ : ∃ c', c' = T'.count false := ⟨_, rfl⟩
                    rw [← hc'] at hlf ⊢
                    have HLF := hid hlf
                    clear hc' hlf hcF hL hMF hcT hi hil
                    go_wp2_with fail
                    refine (HLF.out).mono ?_
                    rintro e w7 ⟨rfl, rfl⟩
                    go_wp2_with fail
                    refine (leftN _).mono ?_
                    rintro e w7 ⟨rfl, rfl⟩
                    go_wp2_with fail
                    go_roundw
                    case rel => exact ⟨k + 1, T', by omega, by omega, by go_num, HR'.out⟩
                    case measure => simp [intOf]; omega
      · have h80i : decide ((k : Int) ≥ 80) = true := decide_eq_true (by omega)
        have h80n : (80 : Int) ≤ (k : Int) := by omega
        obtain ⟨sb, so, hsa, hsc, hz1, hz2⟩ := ints_at HROW.out (HBA.out.trans (HR.out.2.2.2.mono HBA.out.size)) hlt
        subst hsa
        go_wp2_with fail
        go_ret
        exact ⟨rfl, HBA.out.trans (HR.out.2.2.2.mono HBA.out.size)⟩
    · have hkl : ¬ (k : Int) < (len1 : Int) := by omega
      go_wp2_with fail
      go_ret
      exact ⟨rfl, HBA.out.trans (HR.out.2.2.2.mono HBA.out.size)⟩

/-! ### THE ROW's STEP -/
set_option maxRecDepth 100000 in
theorem lifted (os : Os) (started : os.Started) (H : Type) (enc : TypeId × Value → H) :
    ReturnsInHanded {} Try.checked os 6 .any (Rows.blockMapsSpec.pre6 enc Try.prog Try.f6 Rows.blockMapsRow.domain false) (Rows.blockMapsSpec.post enc Try.prog Try.f6 false true false false) := by
  refine returnsInHanded_of_change (C := Try.checked) own started (by kernel_rfl) Try.func6
    (ChangeSpec.witness6 (enc := enc) (C := Try.checked) false ⟨#[], #[.int .i64 0, .slice none 0 0], []⟩ 8 (by kernel_rfl) (by kernel_rfl) (by kernel_rfl) (by kernel_rfl)) ?_
  intro W base args ds gs before hval0 hW hcnd _
  have hval : ∀ (j : Nat) t v, Try.f6.params[j]? = some t → args[j]? = some v → Value.okWide Try.prog W .any base t v := hval0
  have hW' := hW
  obtain ⟨p, q, hA0, hV, rfl, hfz, hnd⟩ := hW
  have hA : DataW.TrodAll enc Try.prog W 0 (fun _ => true) true Try.f6.params.toList args.toList ds p := hA0
  rw [Try.params6] at hA hval
  obtain ⟨v0, vs0, d0, ds0, p0, q0, hargs, rfl, rfl, h0, r0⟩ := trodAll_cons hA
  obtain ⟨v1, vs1, d1, ds1, p1, q1, rfl, rfl, rfl, h1, r1⟩ := trodAll_cons r0
  obtain ⟨rfl, rfl, rfl⟩ := trodAll_nil r1
  obtain rfl : args = #[v0, v1] := by cases args; simp_all
  obtain ⟨rfl, rfl⟩ := trodVars_none hV
  have k0 := h0
  have lt0 : ∀ x ∈ p0, x.block < W.heap.size := by obtain ⟨m, hm⟩ := k0; exact DataW.trod_lt m _ _ _ hm
  have k1 := h1
  have lt1 : ∀ x ∈ p1, x.block < W.heap.size := by obtain ⟨m, hm⟩ := k1; exact DataW.trod_lt m _ _ _ hm
  obtain ⟨a0, rfl, rfl, rfl, w0⟩ := open_int Try.underlying3 (hval 0 3 v0 rfl rfl) h0
  obtain ⟨a1, len1, cap1, rfl⟩ := okWide_slice Try.underlying70 (hval 1 70 v1 rfl rfl)
  obtain ⟨z1, w1⟩ : ∃ zs, IsRow .i64 W a1 len1 cap1 zs := by
    obtain ⟨fuel, hf⟩ := h1
    rcases open_ints Try.underlying70 Try.underlying3 (by kernel_rfl) hf with ⟨hcs, _⟩ | ⟨x, l, c, zs, hcs, _, hl, hm, hz, _, hcell, hwz⟩
    · simp [Value.cells] at hcs
      obtain ⟨rfl, rfl, rfl⟩ := hcs
      exact ⟨[], .inl ⟨rfl, rfl, rfl, rfl⟩⟩
    · simp [Value.cells] at hcs
      obtain ⟨rfl, rfl, rfl⟩ := hcs
      exact ⟨zs, .inr ⟨_, rfl, hl, hm, by simpa using hz, hcell, hwz⟩⟩
  clear hA0 hval0
  refine (walk a0 a1 len1 cap1 z1 W w0 w1).mono fun e W' ⟨he, bel⟩ => ?_
  subst he
  exact ⟨_, rfl, _, _, _, [], _, [], hW', trodAll_mk1 (shut_bool Try.underlying4 _), (trodAll_cons_mk (Below.trod laidOut (by kernel_rfl) (of_decide_eq_true (by kernel_rfl)) k0 bel lt0) (trodAll_cons_mk (Below.trod laidOut (by kernel_rfl) (of_decide_eq_true (by kernel_rfl)) k1 bel lt1) trodAll_mk0)), rfl, bel.frame _, fun h => by cases h⟩

theorem over : Rows.blockMapsRow.holds Try.pinned (OpenSpec.ofChange Rows.blockMapsSpec) :=
  OpenClaim.holds_of_wide 6 Try.f6 rfl rfl rfl rfl rfl rfl rfl ⟨rfl, rfl, rfl, rfl, rfl⟩ rfl rfl rfl rfl rfl (by kernel_rfl) Try.func6 (by kernel_rfl)
    (of_decide_eq_true (by kernel_rfl)) (by unfold Func.isWrapper; first | (rw [if_pos (by decide +kernel)]; kernel_rfl) | (rw [if_neg (by decide +kernel)]; exact ⟨rfl, rfl⟩))
    (fun os started H enc _ => lifted os started H enc)

/-- THE STATEMENT -/
theorem blockMaps_holds : Rows.BlockMapsSaid := over
#print axioms blockMaps_holds
end Go.Proofs.Ytbagpckiegpalaa.blockMaps
