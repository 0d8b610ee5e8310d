/-
  A node that is heard of no more has Grants for three ticks, is then in Doubt, and Away behind its bound, which is told once.
  (The frame behind the walk is the guide's shell, at these parameters.)
-/
import Derived.Test.YtljnkebmdegcpaaRows
import Derived.WalkKit
import Derived.Test.YtljnkebmdegcpaaLeaA
import Derived.ProofKit
import Derived.Deep.Cut
import Derived.Deep.CutRange
import Derived.Deep.CutBlock
import Derived.Deep.Grids
import Derived.OpenShut
import Derived.ShutString
import Derived.ChangeOld
import Derived.Below
namespace Go.Proofs.Ytljnkebmdegcpaa.leaseGone
open Go.ChangeShapes Go.WideShapes Go.ChangeAt Go.RowKit
open Go.ChangeMaps (open_string shut_string)
set_option linter.unusedVariables false

theorem own : ownKnob Try.prog.godebug = none := by kernel_rfl
theorem laidOut : laidOutB Try.prog = true := by kernel_rfl

set_option linter.unusedSimpArgs false
/-- The one node behind i ticks. -/
def gst (L i : Nat) : Nd := if i ≤ 3 then (1, L, 1, i + 9) else if i ≤ 11 then (2, L, 1, 12) else (0, L, 1, 12)
def gun (i : Nat) : Nat := if i ≤ 3 then i + 9 else 12
theorem gn_a (L i : Nat) (h : i < 3) : ticks (2 + i) [gst L i] = [gst L (i + 1)] ∧ grants (2 + i) [gst L i] 1 = [(0, i + 10)] ∧ aways (2 + i) [gst L i] 1 = [] := by
  have e1 : gst L i = (1, L, 1, i + 9) := by unfold gst; rw [if_pos (by omega)]
  have e2 : gst L (i + 1) = (1, L, 1, i + 10) := by unfold gst; rw [if_pos (by omega)]
  have hd : dbt (2 + i) (1, L, 1, i + 9) = (1, L, 1, i + 9) := by unfold dbt; rw [if_neg (by show ¬ (1 = 1 ∧ 1 + 4 ≤ 2 + i); omega)]
  have hl : lat (2 + i) = i + 10 := by unfold lat; rw [if_neg (by omega)]; omega
  have ht : tick1 (2 + i) (1, L, 1, i + 9) = (1, L, 1, i + 10) := by
    unfold tick1
    rw [hd, if_pos rfl, hl]
    show (1, L, 1, max (i + 9) (i + 10)) = _
    rw [Nat.max_eq_right (by omega)]
  rw [e1, e2]
  refine ⟨?_, ?_, ?_⟩
  · show [tick1 _ _] = _; rw [ht]
  · show (if grant (2 + i) (1, L, 1, i + 9) = true then [(0, (tick1 (2 + i) (1, L, 1, i + 9)).2.2.2)] else []) = _
    rw [ht, if_pos (by unfold grant; rw [hd]; rfl)]
  · show (if gone (2 + i) (1, L, 1, i + 9) = true then [0] else []) = _
    rw [if_neg (by unfold gone; rw [hd]; simp)]
theorem gn_two (L now : Nat) (x y : Nd) (A : List Nat) (hd : dbt now x = (2, L, 1, 12)) (h4 : x.2 = (L, 1, 12)) (hy : y = if 12 < now then (0, L, 1, 12) else (2, L, 1, 12)) (hA : A = if 12 < now then [0] else []) : ticks now [x] = [y] ∧ grants now [x] 1 = [] ∧ aways now [x] 1 = A := by
  have hx : x.2.2.2 = 12 := by rw [h4]
  have ht : tick1 now x = y := by
    unfold tick1
    rw [hd, if_neg (by show ¬ (2 = 1); omega), hx, hy, h4]
    by_cases h : 12 < now
    · rw [if_pos ⟨rfl, h⟩, if_pos h]
    · rw [if_neg (fun e => h e.2), if_neg h]
  refine ⟨?_, ?_, ?_⟩
  · show [tick1 _ _] = _; rw [ht]
  · show (if grant now x = true then [(0, (tick1 now x).2.2.2)] else []) = _
    rw [if_neg (by unfold grant; rw [hd]; simp)]
  · show (if gone now x = true then [0] else []) = _
    rw [hA]
    unfold gone
    rw [hd, hx]
    by_cases h : 12 < now <;> simp [h]
theorem gn_b (L i : Nat) (h : 3 ≤ i) (h2 : i < 11) : ticks (2 + i) [gst L i] = [gst L (i + 1)] ∧ grants (2 + i) [gst L i] 1 = [] ∧ aways (2 + i) [gst L i] 1 = [] := by
  have e2 : gst L (i + 1) = (2, L, 1, 12) := by unfold gst; rw [if_neg (by omega), if_pos (by omega)]
  rw [e2]
  by_cases h3 : i = 3
  · subst h3
    exact gn_two L 5 (1, L, 1, 12) _ _ rfl rfl rfl rfl
  · have e1 : gst L i = (2, L, 1, 12) := by unfold gst; rw [if_neg (by omega), if_pos (by omega)]
    rw [e1]
    exact gn_two L (2 + i) _ _ _ (by unfold dbt; rw [if_neg (by show ¬ (2 = 1 ∧ _); omega)]) rfl (by rw [if_neg (by omega)]) (by rw [if_neg (by omega)])
theorem gn_c (L : Nat) : ticks 13 [gst L 11] = [gst L 12] ∧ grants 13 [gst L 11] 1 = [] ∧ aways 13 [gst L 11] 1 = [0] := gn_two L 13 (2, L, 1, 12) _ _ rfl rfl rfl rfl
theorem gn_d (L i : Nat) (h : 11 < i) : ticks (2 + i) [gst L i] = [gst L (i + 1)] ∧ grants (2 + i) [gst L i] 1 = [] ∧ aways (2 + i) [gst L i] 1 = [] := by
  have e1 : gst L i = (0, L, 1, 12) := by unfold gst; rw [if_neg (by omega), if_neg (by omega)]
  have e2 : gst L (i + 1) = (0, L, 1, 12) := by unfold gst; rw [if_neg (by omega), if_neg (by omega)]
  have hd : dbt (2 + i) (0, L, 1, 12) = (0, L, 1, 12) := by unfold dbt; rw [if_neg (by show ¬ (0 = 1 ∧ _); omega)]
  rw [e1, e2]
  refine ⟨?_, ?_, ?_⟩
  · show [tick1 _ _] = _; unfold tick1; rw [hd, if_neg (by show ¬ (0 = 1); omega), if_neg (by show ¬ (0 = 2 ∧ _); omega)]
  · show (if grant (2 + i) (0, L, 1, 12) = true then _ else []) = _
    rw [if_neg (by unfold grant; rw [hd]; simp)]
  · show (if gone (2 + i) (0, L, 1, 12) = true then [0] else []) = _
    rw [if_neg (by unfold gone; rw [hd]; simp)]
theorem state1 (w : World) (b g : Nat) (x : Nd) (s : Nat) (h : BkAt w b g [x]) (hs : x.1 = s) :
    Calls Try.prog 14 #[.pointer (some ⟨b, 0, none⟩), .int .i64 0] w fun e w' => e = .returned (.int .u8 (s : Int)) ∧ w = w' := by
  have h1 := state_any w b g [x] 0 h
  rw [show ndI [x] 0 = x by unfold ndI; rw [if_neg (by simp)]; rfl, hs] at h1
  exact h1
set_option maxRecDepth 100000 in
set_option maxHeartbeats 8000000 in
theorem walk (a0 : Int) (a1 : Int) (w : World) (w0 : (Lit.int .u32 a0).wf = true) (w1 : (Lit.int .u8 a1).wf = true) :
    Calls Try.prog 6 #[.int .u32 a0, .int .u8 a1] w fun e w' => e = .returned (.bool true) ∧ Below w.heap.size w w' := by
  obtain ⟨L, hL⟩ : ∃ k : Nat, a0 = (k : Int) := ⟨a0.toNat, by have := bounds_u32 w0; omega⟩
  subst hL
  have hLb : L ≤ 4294967295 := by have := bounds_u32 w0; omega
  clear w0
  obtain ⟨G, hG⟩ : ∃ k : Nat, a1 = (k : Int) := ⟨a1.toNat, by have := bounds_u8 w1; omega⟩
  subst hG
  have hGb : G < 256 := by have := bounds_u8 w1; omega
  clear w1
  have hr3 : G % 20 < 20 := Nat.mod_lt _ (by omega)
  have hm1 : (G : Int) % 20 = ((G % 20 : Nat) : Int) := by omega
  generalize G % 20 = r at *
  have htm : Int.tmod (G : Int) 20 = (r : Int) := by rw [Int.tmod_eq_emod_of_nonneg (by omega)]; exact hm1
  obtain ⟨n, hn⟩ : ∃ n, n = 30 + r := ⟨_, rfl⟩
  have hm2 : (30 : Int) + (r : Int) = (n : Int) := by omega
  have hnb : 30 ≤ n ∧ n < 50 := by omega
  have hm4 : IntKind.u32.wrap (n : Int) = (n : Int) := by rw [IntKind.wrap_u32]; omega
  have hm5 : IntKind.u32.wrap (r : Int) = (r : Int) := by rw [IntKind.wrap_u32]; omega
  clear hn
  go_enter Try.func6, Try.ntmps6
  go_wp2_with fail
  refine (awake18_any w).mono ?_
  rintro e x1 ⟨rfl, hb1⟩
  have HB1 := hid hb1
  clear hb1
  by_cases hz : L = 0
  · subst hz
    go_wp2_with fail
    refine (awake18_any x1).mono ?_
    rintro e x2 ⟨rfl, hb2⟩
    have HB2 := hid (HB1.out.trans (hb2.mono HB1.out.size))
    clear hb2
    go_wp2_with fail
    go_ret
    exact ⟨rfl, HB2.out⟩
  · have hz0 : decide ((L : Int) = 0) = false := decide_eq_false (by omega)
    go_wp2_with fail
    refine (new_yes x1 1 (by omega) (by omega)).mono ?_
    rintro e x2 ⟨rfl, hk2, hb2⟩
    obtain ⟨g, hg⟩ : ∃ g, g = x1.heap.size := ⟨_, rfl⟩
    obtain ⟨b, hb⟩ : ∃ b, b = x1.heap.size + 1 := ⟨_, rfl⟩
    rw [← hg] at hb
    simp only [← hg] at hk2 ⊢
    simp only [← hb] at hk2 ⊢
    have HG := hid (show w.heap.size ≤ g by rw [hg]; exact HB1.out.size)
    have HK2 := hid hk2
    have HB2 := hid (HB1.out.trans (hb2.mono HB1.out.size))
    clear hk2 hb2 hg hb
    go_wp2_with fail
    refine (hear_lit x2 b g (zs 1) [gst L 0] 0 1 L true false HK2.out (by omega) hLb (by unfold hear; rw [if_neg (by simp [zs_len])]; show ([(hear1 1 L (0, 0, 0, 0)).1], (hear1 1 L (0, 0, 0, 0)).2) = _; unfold hear1; rw [if_pos (by show 0 < L; omega)]; rfl)).mono ?_
    rintro e x3 ⟨rfl, hk3, hb3⟩
    have HK3 := hid hk3
    have HB3 := hid (kbel (b := 0) (l := []) HB2.out hb3 HG.out HB2.out.size)
    clear hk3 hb3
    go_wp2_with fail
    refine (until_any x3 b g _ 0 HK3.out).mono ?_
    rintro e w9 ⟨rfl, rfl⟩
    go_wp2_with fail
    go_loopw [7, 8, 34] (fun vt vu vi wr => ∃ i : Nat, i ≤ n ∧ vi = .int .u32 (i : Int) ∧ vt = .int .i64 (if i ≤ 11 then 0 else 1) ∧ vu = .int .u32 (gun i : Int) ∧ BkAt wr b g [gst L i] ∧ Below w.heap.size w wr) (fun _ _ i _ => n - (intOf i).toNat)
    case atStart => exact ⟨0, Nat.zero_le _, rfl, rfl, rfl, HK3.out, HB3.out⟩
    case round =>
      obtain ⟨i, hi, rfl, rfl, rfl, hbk, hbw⟩ := hrel
      have HBK := hid hbk
      have HBW := hid hbw
      have HM := hid (And.intro hm1 (And.intro htm (And.intro hm2 (And.intro hm4 hm5))))
      clear hbk hbw hm1 htm hm2 hm4 hm5
      by_cases hlt : i < n
      · have hii : (i : Int) < (n : Int) := by omega
        have hii2 : (2 : Int) + (i : Int) = ((2 + i : Nat) : Int) := by omega
        obtain ⟨z, hzz⟩ : ∃ z, z = 2 + i := ⟨_, rfl⟩
        rw [← hzz] at hii2
        have HZ := hid hzz
        have hzb : z ≤ 60 := by omega
        have hw1 : IntKind.u32.wrap (z : Int) = (z : Int) := by rw [IntKind.wrap_u32]; omega
        have HTK := hid (fun (G : List (Nat × Nat)) (A : List Nat) (h : ticks z [gst L i] = [gst L (i + 1)] ∧ grants z [gst L i] 1 = G ∧ aways z [gst L i] 1 = A) => tick_lit wr b g _ _ z G A HBK.out (by omega) h.1 h.2.1 h.2.2)
        clear hzz
        by_cases h1 : i < 3
        · have hd5 : decide ((z : Int) ≥ 5) = false := decide_eq_false (by have := HZ.out; omega)
          have hd6 : ¬ 5 ≤ z := by have := HZ.out; omega
          have hg5 : decide ((z : Int) > (i + 10 : Int)) = false := decide_eq_false (by have := HZ.out; omega)
          have hg6 : ¬ i + 10 < z := by have := HZ.out; omega
          have HT := hid (HTK.out [(0, i + 10)] [] (by rw [HZ.out]; exact gn_a L i h1))
          have HS := hid (show (gst L (i + 1)).1 = 1 by unfold gst; rw [if_pos (by omega)])
          have HU0 := hid (show gun i = i + 9 by unfold gun; rw [if_pos (by omega)])
          have HU1 := hid (show gun (i + 1) = i + 10 by unfold gun; rw [if_pos (by omega)])
          rw [HU0.out]
          rw [if_pos (show i ≤ 11 by omega)]
          go_wp2_with fail
          refine HT.out.mono ?_
          rintro e w5 ⟨vg, va, rfl, h5⟩
          rcases owns_shape h5.hg with ⟨_, h0⟩ | ⟨q, cq, eq, hq1, hq2, hq3, hq4⟩
          · exact absurd h0 (by simp)
          subst eq
          have c1 : w5.cell? ⟨q, 1, none⟩ = some (.int .u32 ((i + 10 : Nat) : Int)) := (h5.hg.cellAt 1 (by simp [gcels, gcel])).trans rfl
          obtain ⟨aa, ca, rfl, -, -⟩ := owns_slice h5.ha
          have HB5 := hid h5.bk
          have HW5 := hid (kbel (b := 0) (l := []) HBW.out h5.k HG.out HBW.out.size)
          clear h5
          go_wp2_with fail
          refine (state1 w5 b g _ 1 HB5.out HS.out).mono ?_
          rintro e w9 ⟨rfl, rfl⟩
          go_wp2_with fail
          go_roundw
          case rel => exact ⟨i + 1, hlt, by go_num, by rw [if_pos (show i + 1 ≤ 11 by omega)]; try rfl, by rw [HU1.out]; try rfl, HB5.out, HW5.out⟩
          case measure => simp [intOf]; omega
        · by_cases h2 : i < 11
          · have hd5 : decide ((z : Int) ≥ 5) = true := decide_eq_true (by have := HZ.out; omega)
            have hd6 : 5 ≤ z := by have := HZ.out; omega
            have hg5 : decide ((z : Int) > (12 : Int)) = false := decide_eq_false (by have := HZ.out; omega)
            have hg6 : ¬ 12 < z := by have := HZ.out; omega
            have HT := hid (HTK.out [] [] (by rw [HZ.out]; exact gn_b L i (by omega) h2))
            have HS := hid (show (gst L (i + 1)).1 = 2 by unfold gst; rw [if_neg (by omega), if_pos (by omega)])
            have HU0 := hid (show gun i = 12 by unfold gun; split <;> omega)
            have HU1 := hid (show gun (i + 1) = 12 by unfold gun; rw [if_neg (by omega)])
            rw [HU0.out]
            rw [if_pos (show i ≤ 11 by omega)]
            go_wp2_with fail
            refine HT.out.mono ?_
            rintro e w5 ⟨vg, va, rfl, h5⟩
            obtain ⟨ag, cg, rfl, -, -⟩ := owns_slice h5.hg
            obtain ⟨aa, ca, rfl, -, -⟩ := owns_slice h5.ha
            have HB5 := hid h5.bk
            have HW5 := hid (kbel (b := 0) (l := []) HBW.out h5.k HG.out HBW.out.size)
            clear h5
            go_wp2_with fail
            refine (state1 w5 b g _ 2 HB5.out HS.out).mono ?_
            rintro e w9 ⟨rfl, rfl⟩
            go_wp2_with fail
            go_roundw
            case rel => exact ⟨i + 1, hlt, by go_num, by rw [if_pos (show i + 1 ≤ 11 by omega)]; try rfl, by rw [HU1.out]; try rfl, HB5.out, HW5.out⟩
            case measure => simp [intOf]; omega
          · by_cases h3 : i = 11
            · have h3a : 11 ≤ i := by omega
              have h3b : i ≤ 11 := by omega
              have H3 := hid h3
              clear h3
              have hd5 : decide ((z : Int) ≥ 5) = true := decide_eq_true (by have := HZ.out; omega)
              have hd6 : 5 ≤ z := by have := HZ.out; omega
              have hg5 : decide ((z : Int) > (12 : Int)) = true := decide_eq_true (by have := HZ.out; omega)
              have hg6 : 12 < z := by have := HZ.out; omega
              have HT := hid (HTK.out [] [0] (by rw [HZ.out, H3.out]; exact gn_c L))
              have HS := hid (show (gst L (i + 1)).1 = 0 by unfold gst; rw [if_neg (by omega), if_neg (by omega)])
              have HU0 := hid (show gun i = 12 by unfold gun; split <;> omega)
              have HU1 := hid (show gun (i + 1) = 12 by unfold gun; rw [if_neg (by omega)])
              rw [HU0.out]
              rw [if_pos (show i ≤ 11 by omega)]
              go_wp2_with fail
              refine HT.out.mono ?_
              rintro e w5 ⟨vg, va, rfl, h5⟩
              obtain ⟨ag, cg, rfl, -, -⟩ := owns_slice h5.hg
              obtain ⟨aa, ca, rfl, -, -⟩ := owns_slice h5.ha
              have HB5 := hid h5.bk
              have HW5 := hid (kbel (b := 0) (l := []) HBW.out h5.k HG.out HBW.out.size)
              clear h5
              go_wp2_with fail
              refine (state1 w5 b g _ 0 HB5.out HS.out).mono ?_
              rintro e w9 ⟨rfl, rfl⟩
              go_wp2_with fail
              go_roundw
              case rel => exact ⟨i + 1, hlt, by go_num, by rw [if_neg (show ¬ i + 1 ≤ 11 by omega)]; try rfl, by rw [HU1.out]; try rfl, HB5.out, HW5.out⟩
              case measure => simp [intOf]; omega
            · have hd5 : decide ((z : Int) ≥ 5) = true := decide_eq_true (by have := HZ.out; omega)
              have hd6 : 5 ≤ z := by have := HZ.out; omega
              have hg5 : decide ((z : Int) > (12 : Int)) = true := decide_eq_true (by have := HZ.out; omega)
              have hg6 : 12 < z := by have := HZ.out; omega
              have HT := hid (HTK.out [] [] (by rw [HZ.out]; exact gn_d L i (by omega)))
              have HS := hid (show (gst L (i + 1)).1 = 0 by unfold gst; rw [if_neg (by omega), if_neg (by omega)])
              have HU0 := hid (show gun i = 12 by unfold gun; split <;> omega)
              have HU1 := hid (show gun (i + 1) = 12 by unfold gun; rw [if_neg (by omega)])
              rw [HU0.out]
              rw [if_neg (show ¬ i ≤ 11 by omega)]
              go_wp2_with fail
              refine HT.out.mono ?_
              rintro e w5 ⟨vg, va, rfl, h5⟩
              obtain ⟨ag, cg, rfl, -, -⟩ := owns_slice h5.hg
              obtain ⟨aa, ca, rfl, -, -⟩ := owns_slice h5.ha
              have HB5 := hid h5.bk
              have HW5 := hid (kbel (b := 0) (l := []) HBW.out h5.k HG.out HBW.out.size)
              clear h5
              go_wp2_with fail
              refine (state1 w5 b g _ 0 HB5.out HS.out).mono ?_
              rintro e w9 ⟨rfl, rfl⟩
              go_wp2_with fail
              go_roundw
              case rel => exact ⟨i + 1, hlt, by go_num, by rw [if_neg (show ¬ i + 1 ≤ 11 by omega)]; try rfl, by rw [HU1.out]; try rfl, HB5.out, HW5.out⟩
              case measure => simp [intOf]; omega
      · have e : i = n := by omega
        have hii : ¬ (i : Int) < (n : Int) := by omega
        rw [if_neg (show ¬ i ≤ 11 by omega)]
        go_wp2_with fail
        go_ret
        exact ⟨rfl, HBW.out⟩

/-! ### THE ROW's STEP -/
set_option maxRecDepth 100000 in
theorem lifted (os : Os) (started : os.Started) (H : Type) (enc : TypeId × Value → H) :
    ReturnsInHanded {} Try.checked os 6 .any (Rows.leaseGoneSpec.pre6 enc Try.prog Try.f6 Rows.leaseGoneRow.domain false) (Rows.leaseGoneSpec.post enc Try.prog Try.f6 false true false false) := by
  refine returnsInHanded_of_change (C := Try.checked) own started (by kernel_rfl) Try.func6
    (ChangeSpec.witness6 (enc := enc) (C := Try.checked) false ⟨#[], #[.int .u32 0, .int .u8 0], []⟩ 8 (by kernel_rfl) (by kernel_rfl) (by kernel_rfl) (by kernel_rfl)) ?_
  intro W base args ds gs before hval0 hW hcnd _
  have hval : ∀ (j : Nat) t v, Try.f6.params[j]? = some t → args[j]? = some v → Value.okWide Try.prog W .any base t v := hval0
  have hW' := hW
  obtain ⟨p, q, hA0, hV, rfl, hfz, hnd⟩ := hW
  have hA : DataW.TrodAll enc Try.prog W 0 (fun _ => true) true Try.f6.params.toList args.toList ds p := hA0
  rw [Try.params6] at hA hval
  obtain ⟨v0, vs0, d0, ds0, p0, q0, hargs, rfl, rfl, h0, r0⟩ := trodAll_cons hA
  obtain ⟨v1, vs1, d1, ds1, p1, q1, rfl, rfl, rfl, h1, r1⟩ := trodAll_cons r0
  obtain ⟨rfl, rfl, rfl⟩ := trodAll_nil r1
  obtain rfl : args = #[v0, v1] := by cases args; simp_all
  obtain ⟨rfl, rfl⟩ := trodVars_none hV
  have k0 := h0
  have lt0 : ∀ x ∈ p0, x.block < W.heap.size := by obtain ⟨m, hm⟩ := k0; exact DataW.trod_lt m _ _ _ hm
  have k1 := h1
  have lt1 : ∀ x ∈ p1, x.block < W.heap.size := by obtain ⟨m, hm⟩ := k1; exact DataW.trod_lt m _ _ _ hm
  obtain ⟨a0, rfl, rfl, rfl, w0⟩ := open_int Try.underlying31 (hval 0 31 v0 rfl rfl) h0
  obtain ⟨a1, rfl, rfl, rfl, w1⟩ := open_int Try.underlying5 (hval 1 5 v1 rfl rfl) h1
  clear hA0 hval0
  refine (walk a0 a1 W w0 w1).mono fun e W' ⟨he, bel⟩ => ?_
  subst he
  exact ⟨_, rfl, _, _, _, [], _, [], hW', trodAll_mk1 (shut_bool Try.underlying4 _), (trodAll_cons_mk (Below.trod laidOut (by kernel_rfl) (of_decide_eq_true (by kernel_rfl)) k0 bel lt0) (trodAll_cons_mk (Below.trod laidOut (by kernel_rfl) (of_decide_eq_true (by kernel_rfl)) k1 bel lt1) trodAll_mk0)), rfl, bel.frame _, fun h => by cases h⟩

theorem over : Rows.leaseGoneRow.holds Try.pinned (OpenSpec.ofChange Rows.leaseGoneSpec) :=
  OpenClaim.holds_of_wide 6 Try.f6 rfl rfl rfl rfl rfl rfl rfl ⟨rfl, rfl, rfl, rfl, rfl⟩ rfl rfl rfl rfl rfl (by kernel_rfl) Try.func6 (by kernel_rfl)
    (of_decide_eq_true (by kernel_rfl)) (by unfold Func.isWrapper; first | (rw [if_pos (by decide +kernel)]; kernel_rfl) | (rw [if_neg (by decide +kernel)]; exact ⟨rfl, rfl⟩))
    (fun os started H enc _ => lifted os started H enc)

/-- THE STATEMENT -/
theorem leaseGone_holds : Rows.LeaseGoneSaid := over
#print axioms leaseGone_holds
end Go.Proofs.Ytljnkebmdegcpaa.leaseGone
