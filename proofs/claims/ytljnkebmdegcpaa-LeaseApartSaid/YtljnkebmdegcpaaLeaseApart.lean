/-
  What is heard of one node changes nothing that is told of any other.
  (The frame behind the walk is the guide's shell, at these parameters.)
-/
import Derived.Test.YtljnkebmdegcpaaRows
import Derived.WalkKit
import Derived.Test.YtljnkebmdegcpaaLeaA
import Derived.Test.YtljnkebmdegcpaaOps18
import Derived.ProofKit
import Derived.Deep.Cut
import Derived.Deep.CutRange
import Derived.Deep.CutBlock
import Derived.Deep.Grids
import Derived.OpenShut
import Derived.ShutString
import Derived.ChangeOld
import Derived.Below
namespace Go.Proofs.Ytljnkebmdegcpaa.leaseApart
open Go.ChangeShapes Go.WideShapes Go.ChangeAt Go.RowKit
open Go.ChangeMaps (open_string shut_string)
set_option linter.unusedVariables false

theorem own : ownKnob Try.prog.godebug = none := by kernel_rfl
theorem laidOut : laidOutB Try.prog = true := by kernel_rfl

set_option linter.unusedSimpArgs false
theorem hear_len (l : List Nd) (i : Int) (now life : Nat) : (hear l i now life).1.length = l.length := by
  unfold hear
  split
  · rfl
  · exact List.length_set
theorem ap_hear (l : List Nd) (i : Int) (now life k : Nat) (hk : (k : Int) ≠ i) : ndI (hear l i now life).1 (k : Int) = ndI l (k : Int) := by
  unfold ndI
  rw [hear_len]
  by_cases h : (k : Int) < 0 ∨ (l.length : Int) ≤ (k : Int)
  · rw [if_pos h, if_pos h]
  · rw [if_neg h, if_neg h]
    unfold hear
    by_cases h2 : i < 0 ∨ (l.length : Int) ≤ i
    · rw [if_pos h2]
    · rw [if_neg h2]
      exact nd_set_ne (by omega) _
/-- What an Op makes of a book. -/
def opl (l : List Nd) (d : Nat) (i : Int) (now life : Nat) : List Nd := if d < 2 then (hear l i now life).1 else ticks now l
theorem opl_len (l : List Nd) (d : Nat) (i : Int) (now life : Nat) : (opl l d i now life).length = l.length := by
  unfold opl
  split
  · exact hear_len l i now life
  · exact List.length_map _
set_option maxRecDepth 100000 in
set_option maxHeartbeats 8000000 in
theorem walk (a0 : Option Addr) (len0 cap0 : Nat) (a1 : Int) (a2 : Int) (a3 : Int) (w : World) (w0 : IsOps18 w a0 len0 cap0) (w1 : (Lit.int .i64 a1).wf = true) (w2 : (Lit.int .u32 a2).wf = true) (w3 : (Lit.int .u32 a3).wf = true) :
    Calls Try.prog 5 #[.slice a0 len0 cap0, .int .i64 a1, .int .u32 a2, .int .u32 a3] w fun e w' => e = .returned (.bool true) ∧ Below w.heap.size w w' := by
  obtain ⟨N, hN⟩ : ∃ k : Nat, a2 = (k : Int) := ⟨a2.toNat, by have := bounds_u32 w2; omega⟩
  subst hN
  have hNb : N ≤ 4294967295 := by have := bounds_u32 w2; omega
  clear w2
  obtain ⟨L, hL⟩ : ∃ k : Nat, a3 = (k : Int) := ⟨a3.toNat, by have := bounds_u32 w3; omega⟩
  subst hL
  have hLb : L ≤ 4294967295 := by have := bounds_u32 w3; omega
  clear w3 w1
  obtain ⟨hlc, hcm⟩ := w0.bounds
  have HOPS := hid w0
  clear w0
  go_enter Try.func5, Try.ntmps5
  go_wp2_with fail
  refine (awake18_any w).mono ?_
  rintro e x1 ⟨rfl, hb1⟩
  have HB1 := hid hb1
  clear hb1
  go_wp2_with fail
  refine (new_yes x1 4 (by omega) (by omega)).mono ?_
  rintro e x2 ⟨rfl, hk2, hb2⟩
  obtain ⟨ga, hga⟩ : ∃ g, g = x1.heap.size := ⟨_, rfl⟩
  obtain ⟨ba, hba⟩ : ∃ b, b = x1.heap.size + 1 := ⟨_, rfl⟩
  rw [← hba, ← hga] at hk2
  simp only [← hba]
  have HKA := hid hk2
  have HB2 := hid (HB1.out.trans (hb2.mono HB1.out.size))
  have hba2 := hk2.lt
  have hga1 : w.heap.size ≤ ga := by rw [hga]; exact HB1.out.size
  have HAB := hid (show ba = ga + 1 by omega)
  clear hk2 hb2 hba hga
  go_wp2_with fail
  refine (new_yes x2 4 (by omega) (by omega)).mono ?_
  rintro e x3 ⟨rfl, hk3, hb3⟩
  obtain ⟨gb, hgb⟩ : ∃ g, g = x2.heap.size := ⟨_, rfl⟩
  obtain ⟨bb, hbb⟩ : ∃ b, b = x2.heap.size + 1 := ⟨_, rfl⟩
  rw [← hbb, ← hgb] at hk3
  simp only [← hbb]
  have HKB := hid hk3
  have HKA2 := hid (HKA.out.below hb3)
  have HB3 := hid (HB2.out.trans (hb3.mono HB2.out.size))
  have HD := hid (show w.heap.size ≤ ga ∧ w.heap.size ≤ gb ∧ ga ≠ gb ∧ ba ≠ gb ∧ bb ≠ ga by have := HAB.out; omega)
  clear hk3 hb3 hbb hgb hga1 hba2
  go_wp2_with fail
  go_loopw [30] (fun vi wr => ∃ (k : Nat) (l : List Nd), k ≤ len0 ∧ k ≤ 60 ∧ vi = .int .i64 k ∧ BkAt wr ba ga l ∧ BkAt wr bb gb l ∧ l.length = 4 ∧ Below w.heap.size w wr) (fun i _ => len0 - (intOf i).toNat)
  case atStart => exact ⟨0, zs 4, Nat.zero_le _, Nat.zero_le _, rfl, HKA2.out, HKB.out, zs_len 4, HB3.out⟩
  case round =>
    obtain ⟨k, l, hk, hk60, rfl, hka, hkb, hl4, hbw⟩ := hrel
    have HKA := hid hka
    have HKB := hid hkb
    have HL4 := hid hl4
    have HBW := hid hbw
    clear hka hkb hl4 hbw HKA2
    by_cases hlt : k < len0
    · have hki : (k : Int) < (len0 : Int) := by omega
      obtain ⟨sb, off, d, i, now, life, rfl, hd, hi, hnow, hlife, hsb, c0, c1, c2, c3⟩ := HOPS.out.at HBW.out hlt
      by_cases h60 : k < 60
      · have hk6 : decide ((k : Int) ≥ 60) = false := decide_eq_false (by omega)
        obtain ⟨p, hp⟩ : ∃ p, p = wr.heap.size := ⟨_, rfl⟩
        obtain ⟨wm, hwm⟩ : ∃ wm, wm = wr.alloc (.cells #[.int .u8 (d : Int), .int .i64 i, .int .u32 (now : Int), .int .u32 (life : Int)] 33) := ⟨_, rfl⟩
        obtain ⟨wn, hwn⟩ : ∃ wn, wn = wm.alloc (.cells #[.pointer (some ⟨ba, 0, none⟩), .pointer (some ⟨bb, 0, none⟩)] 24) := ⟨_, rfl⟩
        have hsm : wm.heap.size = p + 1 := by rw [hwm, hp]; exact World.size_alloc _ _
        have hxm : wm.heap[p]? = some (.cells #[.int .u8 (d : Int), .int .i64 i, .int .u32 (now : Int), .int .u32 (life : Int)] 33 (0, 0)) := by rw [hwm, hp]; exact heap_alloc_new wr _
        have hbm : Below wr.heap.size wr wn := by rw [hwn]; exact (show Below wr.heap.size wr wm by rw [hwm]; exact (Below.refl _ _).alloc (Nat.le_refl _) _).alloc (by rw [← hp, hsm]; omega) _
        have hxn : wn.heap[p]? = some (.cells #[.int .u8 (d : Int), .int .i64 i, .int .u32 (now : Int), .int .u32 (life : Int)] 33 (0, 0)) := by rw [hwn]; exact (((Below.refl _ wm).alloc (Nat.le_refl _) _).block p (by omega)).trans hxm
        have hxs : wn.heap[p + 1]? = some (.cells #[.pointer (some ⟨ba, 0, none⟩), .pointer (some ⟨bb, 0, none⟩)] 24 (0, 0)) := by rw [hwn, ← hsm]; exact heap_alloc_new wm _
        go_wp2_with fail
        rw [← hwm]
        rw [← hwn]
        simp only [← hp]
        have HXN := hid hxn
        have HXS := hid hxs
        have hlt1 := (Array.getElem?_eq_some_iff.1 hxn).1
        have hlt2 := (Array.getElem?_eq_some_iff.1 hxs).1
        have HKA3 := hid (HKA.out.below hbm)
        have HKB3 := hid (HKB.out.below hbm)
        have HPN := hid (show p ≠ ga ∧ p ≠ gb ∧ p + 1 ≠ ga ∧ p + 1 ≠ gb by have h1 := HKA.out.lt.2; have h2 := HKB.out.lt.2; rw [← hp] at h1 h2; omega)
        have HBN := hid (HBW.out.trans (hbm.mono HBW.out.size))
        have HWK := hid hk60
        clear hwm hwn hp hxm hxn hxs hbm hsm
        go_loopw [41] (fun vi wz => ∃ j : Nat, j ≤ 2 ∧ vi = .int .i64 j ∧ BkAt wz ba ga (if 0 < j then opl l d i now life else l) ∧ BkAt wz bb gb (if 1 < j then opl l d i now life else l) ∧ Keeps (fun i => i = ga ∨ i = gb) wn wz) (fun i _ => 2 - (intOf i).toNat)
        case atStart => exact ⟨0, Nat.zero_le _, rfl, HKA3.out, HKB3.out, Keeps.refl _ _⟩
        case round =>
          obtain ⟨j, hj, rfl, hma, hmb, hkz⟩ := hrel
          obtain ⟨wz, hwz⟩ : ∃ wz, wz = wr := ⟨_, rfl⟩
          subst hwz
          have hyn := (hkz.block p hlt1 (by have := HPN.out; rintro (e | e) <;> omega)).trans HXN.out
          have hys := (hkz.block (p + 1) hlt2 (by have := HPN.out; rintro (e | e) <;> omega)).trans HXS.out
          have z0 : wz.cell? ⟨p, 0, none⟩ = some (.int .u8 (d : Int)) := (cell_of_row _ _ _ _ _ _ hyn).trans rfl
          have z1 : wz.cell? ⟨p, 1, none⟩ = some (.int .i64 i) := (cell_of_row _ _ _ _ _ _ hyn).trans rfl
          have z2 : wz.cell? ⟨p, 2, none⟩ = some (.int .u32 (now : Int)) := (cell_of_row _ _ _ _ _ _ hyn).trans rfl
          have z3 : wz.cell? ⟨p, 3, none⟩ = some (.int .u32 (life : Int)) := (cell_of_row _ _ _ _ _ _ hyn).trans rfl
          have hkz := hid hkz
          by_cases hj2 : j < 2
          · by_cases hj1 : j = 0
            · obtain rfl : j = 0 := by omega
              have cj : wz.cell? ⟨p + 1, 0, none⟩ = some (.pointer (some ⟨ba, 0, none⟩)) := (cell_of_row _ _ _ _ _ _ hys).trans rfl
              have HM := hid (show BkAt wz ba ga l from by simpa using hma)
              have HO := hid (show BkAt wz bb gb l from by simpa using hmb)
              clear hma hmb
              by_cases hd2 : d < 2
              · have hd1 : decide ((d : Int) < 2) = true := decide_eq_true (by omega)
                have HOPL := hid (show opl l d i now life = (hear l i now life).1 by unfold opl; rw [if_pos hd2])
                go_wp2_with fail
                refine (hear_any wz ba ga l i now life HM.out hnow hlife).mono ?_
                rintro e w5 ⟨rfl, hb5, hk5⟩
                have HMN := hid (show BkAt w5 ba ga (opl l d i now life) by rw [HOPL.out]; exact hb5)
                have HON := hid (HO.out.keeps hk5 (by have := HD.out; show ¬ bb = ga; omega) (by have := HD.out; show ¬ gb = ga; omega))
                have HKN := hid (hkz.out.trans (hk5.mono fun i _ e => .inl e))
                clear hb5 hk5
                go_wp2_with fail
                go_roundw
                case rel => exact ⟨1, by omega, by go_num, by rw [if_pos (by omega)]; exact HMN.out, by rw [if_neg (by omega)]; exact HON.out, HKN.out⟩
                case measure => simp [intOf]
              · have hd1 : decide ((d : Int) < 2) = false := decide_eq_false (by omega)
                have HOPL := hid (show opl l d i now life = ticks now l by unfold opl; rw [if_neg hd2])
                go_wp2_with fail
                refine (tick_any wz ba ga l now HM.out hnow).mono ?_
                rintro e w5 ⟨vg, va, rfl, h5⟩
                have HMN := hid (show BkAt w5 ba ga (opl l d i now life) by rw [HOPL.out]; exact h5.bk)
                have HON := hid (HO.out.keeps h5.k (by have := HD.out; show ¬ bb = ga; omega) (by have := HD.out; show ¬ gb = ga; omega))
                have HKN := hid (hkz.out.trans (h5.k.mono fun i _ e => .inl e))
                clear h5
                go_wp2_with fail
                go_roundw
                case rel => exact ⟨1, by omega, by go_num, by rw [if_pos (by omega)]; exact HMN.out, by rw [if_neg (by omega)]; exact HON.out, HKN.out⟩
                case measure => simp [intOf]
            · obtain rfl : j = 1 := by omega
              have cj : wz.cell? ⟨p + 1, 1, none⟩ = some (.pointer (some ⟨bb, 0, none⟩)) := (cell_of_row _ _ _ _ _ _ hys).trans rfl
              have HM := hid (show BkAt wz bb gb l from by simpa using hmb)
              have HO := hid (show BkAt wz ba ga (opl l d i now life) from by simpa using hma)
              clear hma hmb
              by_cases hd2 : d < 2
              · have hd1 : decide ((d : Int) < 2) = true := decide_eq_true (by omega)
                have HOPL := hid (show opl l d i now life = (hear l i now life).1 by unfold opl; rw [if_pos hd2])
                go_wp2_with fail
                refine (hear_any wz bb gb l i now life HM.out hnow hlife).mono ?_
                rintro e w5 ⟨rfl, hb5, hk5⟩
                have HMN := hid (show BkAt w5 bb gb (opl l d i now life) by rw [HOPL.out]; exact hb5)
                have HON := hid (HO.out.keeps hk5 (by have := HD.out; show ¬ ba = gb; omega) (by have := HD.out; show ¬ ga = gb; omega))
                have HKN := hid (hkz.out.trans (hk5.mono fun i _ e => .inr e))
                clear hb5 hk5
                go_wp2_with fail
                go_roundw
                case rel => exact ⟨2, by omega, by go_num, by rw [if_pos (by omega)]; exact HON.out, by rw [if_pos (by omega)]; exact HMN.out, HKN.out⟩
                case measure => simp [intOf]
              · have hd1 : decide ((d : Int) < 2) = false := decide_eq_false (by omega)
                have HOPL := hid (show opl l d i now life = ticks now l by unfold opl; rw [if_neg hd2])
                go_wp2_with fail
                refine (tick_any wz bb gb l now HM.out hnow).mono ?_
                rintro e w5 ⟨vg, va, rfl, h5⟩
                have HMN := hid (show BkAt w5 bb gb (opl l d i now life) by rw [HOPL.out]; exact h5.bk)
                have HON := hid (HO.out.keeps h5.k (by have := HD.out; show ¬ ba = gb; omega) (by have := HD.out; show ¬ ga = gb; omega))
                have HKN := hid (hkz.out.trans (h5.k.mono fun i _ e => .inr e))
                clear h5
                go_wp2_with fail
                go_roundw
                case rel => exact ⟨2, by omega, by go_num, by rw [if_pos (by omega)]; exact HON.out, by rw [if_pos (by omega)]; exact HMN.out, HKN.out⟩
                case measure => simp [intOf]
          · obtain rfl : j = 2 := by omega
            rw [if_pos (by omega)] at hma hmb
            have HMA := hid hma
            have HMB := hid hmb
            have HBZ := hid (HBN.out.trans (hkz.out.below HBN.out.size (by have := HD.out; rintro i (e | e) <;> omega)))
            have HOL := hid ((opl_len l d i now life).trans HL4.out)
            clear hma hmb
            go_wp2_with fail
            go_roundw
            case rel => exact ⟨k + 1, opl l d i now life, hlt, by have := HWK.out; omega, by go_num, HMA.out, HMB.out, HOL.out, HBZ.out⟩
            case measure => simp [intOf]; omega
      · have hk6 : decide ((k : Int) ≥ 60) = true := decide_eq_true (by omega)
        obtain ⟨wm, hwm⟩ : ∃ wm, wm = wr.alloc (.cells #[.int .u8 (d : Int), .int .i64 i, .int .u32 (now : Int), .int .u32 (life : Int)] 33) := ⟨_, rfl⟩
        have hbm : Below wr.heap.size wr wm := by rw [hwm]; exact (Below.refl _ _).alloc (Nat.le_refl _) _
        have HKA := hid (HKA.out.below hbm)
        have HKB := hid (HKB.out.below hbm)
        have HBW := hid (HBW.out.trans (hbm.mono HBW.out.size))
        go_wp2_with fail
        rw [← hwm]
        clear hwm hbm
        refine (hear_any wm ba ga l a1 N L HKA.out hNb hLb).mono ?_
        rintro e w5 ⟨rfl, hb5, hk5⟩
        have HA5 := hid hb5
        have HB5 := hid (HKB.out.keeps hk5 (by have := HD.out; show ¬ bb = ga; omega) (by have := HD.out; show ¬ gb = ga; omega))
        have HW5 := hid (kbel (b := 0) (l := []) HBW.out hk5 HD.out.1 HBW.out.size)
        clear hb5 hk5
        go_wp2_with fail
        go_loopw [67] (fun vi wz => ∃ j : Nat, j ≤ 4 ∧ vi = .int .i64 j ∧ wz = w5) (fun i _ => 4 - (intOf i).toNat)
        case atStart => exact ⟨0, by omega, rfl, rfl⟩
        case round =>
          obtain ⟨j, hj, rfl, hwz⟩ := hrel
          rw [hwz]
          clear hwz
          by_cases hj4 : j < 4
          · have hji : (j : Int) < 4 := by omega
            by_cases hjn : (j : Int) = a1
            · have ej : decide ((j : Int) = a1) = true := decide_eq_true hjn
              have en : ((j : Int) != a1) = false := by simp [hjn]
              have hjn := hid hjn
              go_wp2_with fail
              go_roundw
              case rel => exact ⟨j + 1, hj4, by go_num, by first | trivial | rfl⟩
              case measure => simp [intOf]; omega
            · have HE := ap_hear l a1 N L j hjn
              have SA := hid (state_any w5 ba ga _ (j : Int) HA5.out)
              have LA := hid (life_any w5 ba ga _ (j : Int) HA5.out)
              have UA := hid (until_any w5 ba ga _ (j : Int) HA5.out)
              have SB := hid (state_any w5 bb gb _ (j : Int) HB5.out)
              have LB := hid (life_any w5 bb gb _ (j : Int) HB5.out)
              have UB := hid (until_any w5 bb gb _ (j : Int) HB5.out)
              rw [HE] at SA LA UA
              clear HE
              generalize (ndI l (j : Int)).1 = y0 at *
              generalize (ndI l (j : Int)).2.1 = y1 at *
              generalize (ndI l (j : Int)).2.2.2 = y3 at *
              have ej : decide ((j : Int) = a1) = false := decide_eq_false hjn
              have en : ((j : Int) != a1) = true := by simp [hjn]
              go_wp2_with fail
              refine SA.out.mono ?_
              rintro e w9 ⟨rfl, rfl⟩
              go_wp2_with fail
              refine SB.out.mono ?_
              rintro e w9 ⟨rfl, rfl⟩
              go_wp2_with fail
              refine LA.out.mono ?_
              rintro e w9 ⟨rfl, rfl⟩
              go_wp2_with fail
              refine LB.out.mono ?_
              rintro e w9 ⟨rfl, rfl⟩
              go_wp2_with fail
              refine UA.out.mono ?_
              rintro e w9 ⟨rfl, rfl⟩
              go_wp2_with fail
              refine UB.out.mono ?_
              rintro e w9 ⟨rfl, rfl⟩
              go_wp2_with fail
              go_roundw
              case rel => exact ⟨j + 1, hj4, by go_num, by first | trivial | rfl⟩
              case measure => simp [intOf]; omega
          · have hji : ¬ (j : Int) < 4 := by omega
            go_wp2_with fail
            go_ret
            exact ⟨rfl, HW5.out⟩
    · have hki : ¬ (k : Int) < (len0 : Int) := by omega
      go_wp2_with fail
      refine (hear_any wr ba ga l a1 N L HKA.out hNb hLb).mono ?_
      rintro e w5 ⟨rfl, hb5, hk5⟩
      have HA5 := hid hb5
      have HB5 := hid (HKB.out.keeps hk5 (by have := HD.out; show ¬ bb = ga; omega) (by have := HD.out; show ¬ gb = ga; omega))
      have HW5 := hid (kbel (b := 0) (l := []) HBW.out hk5 HD.out.1 HBW.out.size)
      clear hb5 hk5
      go_wp2_with fail
      go_loopw [67] (fun vi wz => ∃ j : Nat, j ≤ 4 ∧ vi = .int .i64 j ∧ wz = w5) (fun i _ => 4 - (intOf i).toNat)
      case atStart => exact ⟨0, by omega, rfl, rfl⟩
      case round =>
        obtain ⟨j, hj, rfl, hwz⟩ := hrel
        rw [hwz]
        clear hwz
        by_cases hj4 : j < 4
        · have hji : (j : Int) < 4 := by omega
          by_cases hjn : (j : Int) = a1
          · have ej : decide ((j : Int) = a1) = true := decide_eq_true hjn
            have en : ((j : Int) != a1) = false := by simp [hjn]
            have hjn := hid hjn
            go_wp2_with fail
            go_roundw
            case rel => exact ⟨j + 1, hj4, by go_num, by first | trivial | rfl⟩
            case measure => simp [intOf]; omega
          · have HE := ap_hear l a1 N L j hjn
            have SA := hid (state_any w5 ba ga _ (j : Int) HA5.out)
            have LA := hid (life_any w5 ba ga _ (j : Int) HA5.out)
            have UA := hid (until_any w5 ba ga _ (j : Int) HA5.out)
            have SB := hid (state_any w5 bb gb _ (j : Int) HB5.out)
            have LB := hid (life_any w5 bb gb _ (j : Int) HB5.out)
            have UB := hid (until_any w5 bb gb _ (j : Int) HB5.out)
            rw [HE] at SA LA UA
            clear HE
            generalize (ndI l (j : Int)).1 = y0 at *
            generalize (ndI l (j : Int)).2.1 = y1 at *
            generalize (ndI l (j : Int)).2.2.2 = y3 at *
            have ej : decide ((j : Int) = a1) = false := decide_eq_false hjn
            have en : ((j : Int) != a1) = true := by simp [hjn]
            go_wp2_with fail
            refine SA.out.mono ?_
            rintro e w9 ⟨rfl, rfl⟩
            go_wp2_with fail
            refine SB.out.mono ?_
            rintro e w9 ⟨rfl, rfl⟩
            go_wp2_with fail
            refine LA.out.mono ?_
            rintro e w9 ⟨rfl, rfl⟩
            go_wp2_with fail
            refine LB.out.mono ?_
            rintro e w9 ⟨rfl, rfl⟩
            go_wp2_with fail
            refine UA.out.mono ?_
            rintro e w9 ⟨rfl, rfl⟩
            go_wp2_with fail
            refine UB.out.mono ?_
            rintro e w9 ⟨rfl, rfl⟩
            go_wp2_with fail
            go_roundw
            case rel => exact ⟨j + 1, hj4, by go_num, by first | trivial | rfl⟩
            case measure => simp [intOf]; omega
        · have hji : ¬ (j : Int) < 4 := by omega
          go_wp2_with fail
          go_ret
          exact ⟨rfl, HW5.out⟩

/-! ### THE ROW's STEP -/
set_option maxRecDepth 100000 in
theorem lifted (os : Os) (started : os.Started) (H : Type) (enc : TypeId × Value → H) :
    ReturnsInHanded {} Try.checked os 5 .any (Rows.leaseApartSpec.pre6 enc Try.prog Try.f5 Rows.leaseApartRow.domain false) (Rows.leaseApartSpec.post enc Try.prog Try.f5 false true false false) := by
  refine returnsInHanded_of_change (C := Try.checked) own started (by kernel_rfl) Try.func5
    (ChangeSpec.witness6 (enc := enc) (C := Try.checked) false ⟨#[], #[.slice none 0 0, .int .i64 0, .int .u32 0, .int .u32 0], []⟩ 8 (by kernel_rfl) (by kernel_rfl) (by kernel_rfl) (by kernel_rfl)) ?_
  intro W base args ds gs before hval0 hW hcnd _
  have hval : ∀ (j : Nat) t v, Try.f5.params[j]? = some t → args[j]? = some v → Value.okWide Try.prog W .any base t v := hval0
  have hW' := hW
  obtain ⟨p, q, hA0, hV, rfl, hfz, hnd⟩ := hW
  have hA : DataW.TrodAll enc Try.prog W 0 (fun _ => true) true Try.f5.params.toList args.toList ds p := hA0
  rw [Try.params5] at hA hval
  obtain ⟨v0, vs0, d0, ds0, p0, q0, hargs, rfl, rfl, h0, r0⟩ := trodAll_cons hA
  obtain ⟨v1, vs1, d1, ds1, p1, q1, rfl, rfl, rfl, h1, r1⟩ := trodAll_cons r0
  obtain ⟨v2, vs2, d2, ds2, p2, q2, rfl, rfl, rfl, h2, r2⟩ := trodAll_cons r1
  obtain ⟨v3, vs3, d3, ds3, p3, q3, rfl, rfl, rfl, h3, r3⟩ := trodAll_cons r2
  obtain ⟨rfl, rfl, rfl⟩ := trodAll_nil r3
  obtain rfl : args = #[v0, v1, v2, v3] := by cases args; simp_all
  obtain ⟨rfl, rfl⟩ := trodVars_none hV
  have k0 := h0
  have lt0 : ∀ x ∈ p0, x.block < W.heap.size := by obtain ⟨m, hm⟩ := k0; exact DataW.trod_lt m _ _ _ hm
  have k1 := h1
  have lt1 : ∀ x ∈ p1, x.block < W.heap.size := by obtain ⟨m, hm⟩ := k1; exact DataW.trod_lt m _ _ _ hm
  have k2 := h2
  have lt2 : ∀ x ∈ p2, x.block < W.heap.size := by obtain ⟨m, hm⟩ := k2; exact DataW.trod_lt m _ _ _ hm
  have k3 := h3
  have lt3 : ∀ x ∈ p3, x.block < W.heap.size := by obtain ⟨m, hm⟩ := k3; exact DataW.trod_lt m _ _ _ hm
  obtain ⟨a0, len0, cap0, rfl⟩ := okWide_slice Try.underlying22 (hval 0 22 v0 rfl rfl)
  have w0 : IsOps18 W a0 len0 cap0 := isOps18_of h0
  obtain ⟨a1, rfl, rfl, rfl, w1⟩ := open_int Try.underlying3 (hval 1 3 v1 rfl rfl) h1
  obtain ⟨a2, rfl, rfl, rfl, w2⟩ := open_int Try.underlying31 (hval 2 31 v2 rfl rfl) h2
  obtain ⟨a3, rfl, rfl, rfl, w3⟩ := open_int Try.underlying31 (hval 3 31 v3 rfl rfl) h3
  clear hA0 hval0
  refine (walk a0 len0 cap0 a1 a2 a3 W w0 w1 w2 w3).mono fun e W' ⟨he, bel⟩ => ?_
  subst he
  exact ⟨_, rfl, _, _, _, [], _, [], hW', trodAll_mk1 (shut_bool Try.underlying4 _), (trodAll_cons_mk (Below.trod laidOut (by kernel_rfl) (of_decide_eq_true (by kernel_rfl)) k0 bel lt0) (trodAll_cons_mk (Below.trod laidOut (by kernel_rfl) (of_decide_eq_true (by kernel_rfl)) k1 bel lt1) (trodAll_cons_mk (Below.trod laidOut (by kernel_rfl) (of_decide_eq_true (by kernel_rfl)) k2 bel lt2) (trodAll_cons_mk (Below.trod laidOut (by kernel_rfl) (of_decide_eq_true (by kernel_rfl)) k3 bel lt3) trodAll_mk0)))), rfl, bel.frame _, fun h => by cases h⟩

theorem over : Rows.leaseApartRow.holds Try.pinned (OpenSpec.ofChange Rows.leaseApartSpec) :=
  OpenClaim.holds_of_wide 5 Try.f5 rfl rfl rfl rfl rfl rfl rfl ⟨rfl, rfl, rfl, rfl, rfl⟩ rfl rfl rfl rfl rfl (by kernel_rfl) Try.func5 (by kernel_rfl)
    (of_decide_eq_true (by kernel_rfl)) (by unfold Func.isWrapper; first | (rw [if_pos (by decide +kernel)]; kernel_rfl) | (rw [if_neg (by decide +kernel)]; exact ⟨rfl, rfl⟩))
    (fun os started H enc _ => lifted os started H enc)

/-- THE STATEMENT -/
theorem leaseApart_holds : Rows.LeaseApartSaid := over
#print axioms leaseApart_holds
end Go.Proofs.Ytljnkebmdegcpaa.leaseApart
