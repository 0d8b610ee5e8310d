/-
  CapTicks: for any stretches of bytes, the number that cap.Overlap tells is that of the ticks 0 to 255 that lie in all of them, asked one by one. No condition.
  (The frame behind the walk is the guide's shell, at these parameters.)
-/
import Derived.Test.YtajdhnhnknmedaaRows
import Derived.WalkKit
import Derived.Test.YtajdhnhnknmedaaTickM
import Derived.Test.YtajdhnhnknmedaaRef2
import Derived.ProofKit
import Derived.Deep.Cut
import Derived.OpenShut
import Derived.ShutString
import Derived.ChangeOld
import Derived.Below
namespace Go.Proofs.Ytajdhnhnknmedaa.capTicks
open Go.ChangeShapes Go.WideShapes Go.ChangeAt Go.RowKit
open Go.ChangeMaps (open_string shut_string)
set_option linter.unusedVariables false

theorem own : ownKnob Try.prog.godebug = none := by kernel_rfl
theorem laidOut : laidOutB Try.prog = true := by kernel_rfl

set_option maxRecDepth 100000 in
set_option maxHeartbeats 4000000 in
theorem ct_some (b off cap0 : Nat) (K : Nat) (hK : K ≤ 20) (hK0 : 0 < K) (l : List (Nat × Nat)) (w : World) (hb : b < w.heap.size) (hcap : K ≤ cap0) (hcm : cap0 ≤ 9223372036854775807) (hl : l.length = K)
    (hc : ∀ j, j < K → (l.getD j (0, 0)).1 < 256 ∧ (l.getD j (0, 0)).2 < 256 ∧ w.cell? ⟨b, off + j * 2, none⟩ = some (.int .u8 ((l.getD j (0, 0)).1 : Int)) ∧ w.cell? ⟨b, off + j * 2 + 1, none⟩ = some (.int .u8 ((l.getD j (0, 0)).2 : Int))) :
    Calls Try.prog 4 #[.slice (some ⟨b, off, none⟩) K cap0] w fun e w' => e = .returned (.bool true) ∧ Below w.heap.size w w' := by
  have HC := hid hc
  have HL := hid hl
  have HFIT := hid (fits_of8 hl fun j hj => ⟨(hc j hj).1, (hc j hj).2.1⟩)
  have HCNT := hid (Cap.cnt_ov l (by omega) HFIT.out.2)
  have hq : ((K : Int) == 0) = false := by rw [beq_eq_false_iff_ne]; omega
  skip
  clear hc hl
  go_enter Try.func4, Try.ntmps4
  go_wp2_with fail
  refine (awake3_any _).mono ?_
  rintro e wa ⟨rfl, hba⟩
  go_wp2_with fail
  go_loopw [3, 26] (fun v i wr => ∃ k : Nat, k ≤ K ∧ i = .int .i64 k ∧ Own2 wr w.heap.size v (l.take k) ∧ Below w.heap.size w wr) (fun _ i _ => K - (intOf i).toNat)
  case atStart => exact ⟨0, by omega, rfl, Own2.nil _ _, hba⟩
  case round =>
    obtain ⟨k, hk, rfl, hown, hbw⟩ := hrel
    by_cases hlt : k < K
    · obtain ⟨y0, y1, g0, g1⟩ := HC.out k hlt
      have HT := hid (Cap.take_snoc l k (by have := HL.out; omega))
      rw [← hbw.cell (p := ⟨b, off + k * 2, none⟩) hb] at g0
      rw [← hbw.cell (p := ⟨b, off + k * 2 + 1, none⟩) hb] at g1
      obtain ⟨s, hs⟩ : ∃ s, s = l.getD k (0, 0) := ⟨_, rfl⟩
      rw [← hs] at g0 g1 y0 y1 HT
      clear hs
      obtain ⟨s1, s2⟩ := s
      simp only at g0 g1 y0 y1
      have HTL := hid (show (l.take k).length = k by rw [List.length_take]; have := HL.out; omega)
      have HO := hid hown
      have HB := hid hbw
      have hwr := hbw.size
      clear hown hbw
      go_wp2_with (at_builtin; go_must (refine app2 rfl (.tmp 30) (.tmp 38) rfl w.heap.size _ (.slice (some ⟨wr.heap.size + 1, 0, none⟩) 1 1) (l.take k) [(s1, s2)] rfl rfl (HO.out.below (((Below.refl _ _).alloc (Nat.le_refl _) _).alloc (by simp) _)) (Rd2.one (by have := heap_alloc_new (wr.alloc (.cells #[.int .u8 (s1 : Int), .int .u8 (s2 : Int)] 29)) (.cells #[.int .u32 (s1 : Int), .int .u32 (s2 : Int)] 24); simpa using this)) (by rw [HTL.out]; simp; omega) (by simp; omega) ?_); intro v1 w1 ho1 hg1)
      go_roundw
      case rel => exact ⟨k + 1, hlt, by go_num, by rw [HT.out]; exact ho1, (((HB.out.alloc (by omega) _).alloc (by simp; omega) _)).grown hg1 (by simp; omega) (fun j hj => (HO.out.lt j hj).1)⟩
      case measure => simp [intOf]; omega
    · obtain rfl : K = k := by omega
      have hall : l.take K = l := List.take_of_length_le (by have := HL.out; omega)
      rw [hall] at hown
      have HO := hid hown
      have HB := hid hbw
      have hwr := hbw.size
      clear hown hbw hall
      go_wp2_with fail
      obtain ⟨wt, rfl⟩ : ∃ wt : World, wt = wr := ⟨_, rfl⟩
      have hbt : b < wt.heap.size := by omega
      go_loopw [6, 41] (fun n i wr => ∃ T : Nat, T ≤ 256 ∧ i = .int .i64 T ∧ n = .int .i64 (Cap.cnt l T : Int) ∧ Below wt.heap.size wt wr) (fun _ i _ => 256 - (intOf i).toNat)
      case atStart => exact ⟨0, by omega, rfl, rfl, Below.refl _ _⟩
      case round =>
        obtain ⟨T, hT, rfl, rfl, hbt2⟩ := hrel
        have hcl := Cap.cnt_le l T
        have HB2 := hid hbt2
        have hwr2 := hbt2.size
        clear hbt2
        obtain ⟨CN, hCN⟩ : ∃ CN, CN = Cap.cnt l T := ⟨_, rfl⟩
        rw [← hCN] at hcl ⊢
        have HCN := hid hCN
        clear hCN
        by_cases hlt : T < 256
        · obtain ⟨wo, rfl⟩ : ∃ wo : World, wo = wr := ⟨_, rfl⟩
          go_wp2_with fail
          go_loopw [8, 46] (fun v i wr => ∃ k : Nat, k ≤ K ∧ i = .int .i64 k ∧ v = .bool (Cap.tin T (l.take k)) ∧ Below wt.heap.size wt wr) (fun _ i _ => K - (intOf i).toNat)
          case atStart => exact ⟨0, by omega, rfl, rfl, HB2.out⟩
          case round =>
            obtain ⟨k, hk, rfl, rfl, hbt3⟩ := hrel
            have hwr3 := hbt3.size
            by_cases hlt2 : k < K
            · obtain ⟨y0, y1, g0, g1⟩ := HC.out k hlt2
              have HT := hid (show Cap.tin T (l.take (k + 1)) = _ by rw [Cap.take_snoc l k (by have := HL.out; omega), Cap.tin_snoc])
              rw [← HB.out.cell (p := ⟨b, off + k * 2, none⟩) hb, ← hbt3.cell (p := ⟨b, off + k * 2, none⟩) hbt] at g0
              rw [← HB.out.cell (p := ⟨b, off + k * 2 + 1, none⟩) hb, ← hbt3.cell (p := ⟨b, off + k * 2 + 1, none⟩) hbt] at g1
              obtain ⟨s, hs⟩ : ∃ s, s = l.getD k (0, 0) := ⟨_, rfl⟩
              rw [← hs] at g0 g1 y0 y1 HT
              clear hs
              obtain ⟨s1, s2⟩ := s
              simp only at g0 g1 y0 y1
              have HB3 := hid hbt3
              clear hbt3
              obtain ⟨B, hB⟩ : ∃ B, B = Cap.tin T (l.take k) := ⟨_, rfl⟩
              rw [← hB] at HT ⊢
              clear hB
              cases B
              · go_wp2
                go_roundw
                case rel => exact ⟨k + 1, hlt2, by go_num, by rw [HT.out]; rfl, HB3.out.alloc (by omega) _⟩
                case measure => simp [intOf]; omega
              · by_cases c1 : s1 ≤ T <;> by_cases c2 : T ≤ s2
                all_goals
                  go_wp2
                  go_roundw
                  case rel => exact ⟨k + 1, hlt2, by go_num, by rw [HT.out]; simp [c1, c2], HB3.out.alloc (by omega) _⟩
                  case measure => simp [intOf]; omega
            · obtain rfl : K = k := by omega
              have hall : l.take K = l := List.take_of_length_le (by have := HL.out; omega)
              rw [hall]
              have HB3 := hid hbt3
              clear hbt3
              have HS := hid (show Cap.cnt l (T + 1) = Cap.cnt l T + (if Cap.tin T l = true then 1 else 0) from rfl)
              rw [← HCN.out] at HS
              obtain ⟨B, hB⟩ : ∃ B, B = Cap.tin T l := ⟨_, rfl⟩
              rw [← hB] at HS ⊢
              clear hB hall
              cases B
              all_goals
                go_wp2
                go_roundw
                case rel => exact ⟨T + 1, hlt, by go_num, by rw [HS.out]; first | rfl | go_num, HB3.out⟩
                case measure => simp [intOf]; omega
        · obtain rfl : T = 256 := by omega
          have HR := hid (HO.out.below HB2.out)
          go_wp2_with fail
          refine (overlap_any _ l wr HR.out.rd HFIT.out.1).mono ?_
          rintro e wz ⟨rfl, hbz⟩
          have HEQ := hid (show CN = Cap.ov l from HCN.out.trans HCNT.out)
          rw [HEQ.out]
          go_wp2
          go_ret
          exact ⟨rfl, HB.out.trans ((HB2.out.mono hwr).trans (hbz.mono (by omega)))⟩
set_option maxRecDepth 100000 in
set_option maxHeartbeats 4000000 in
theorem ct_many (b off cap0 : Nat) (len0 : Nat) (hn : 20 < len0) (l : List (Nat × Nat)) (w : World) (hb : b < w.heap.size) (hcap : len0 ≤ cap0) (hcm : cap0 ≤ 9223372036854775807) (hl : l.length = 20)
    (hc : ∀ j, j < 20 → (l.getD j (0, 0)).1 < 256 ∧ (l.getD j (0, 0)).2 < 256 ∧ w.cell? ⟨b, off + j * 2, none⟩ = some (.int .u8 ((l.getD j (0, 0)).1 : Int)) ∧ w.cell? ⟨b, off + j * 2 + 1, none⟩ = some (.int .u8 ((l.getD j (0, 0)).2 : Int))) :
    Calls Try.prog 4 #[.slice (some ⟨b, off, none⟩) len0 cap0] w fun e w' => e = .returned (.bool true) ∧ Below w.heap.size w w' := by
  have HC := hid hc
  have HL := hid hl
  have HFIT := hid (fits_of8 hl fun j hj => ⟨(hc j hj).1, (hc j hj).2.1⟩)
  have HCNT := hid (Cap.cnt_ov l (by omega) HFIT.out.2)
  have hq : ((len0 : Int) == 0) = false := by rw [beq_eq_false_iff_ne]; omega
  have hn1 : (20 : Int) < (len0 : Int) := by omega
  clear hc hl
  go_enter Try.func4, Try.ntmps4
  go_wp2_with fail
  refine (awake3_any _).mono ?_
  rintro e wa ⟨rfl, hba⟩
  go_wp2_with fail
  go_loopw [3, 26] (fun v i wr => ∃ k : Nat, k ≤ 20 ∧ i = .int .i64 k ∧ Own2 wr w.heap.size v (l.take k) ∧ Below w.heap.size w wr) (fun _ i _ => 20 - (intOf i).toNat)
  case atStart => exact ⟨0, by omega, rfl, Own2.nil _ _, hba⟩
  case round =>
    obtain ⟨k, hk, rfl, hown, hbw⟩ := hrel
    by_cases hlt : k < 20
    · obtain ⟨y0, y1, g0, g1⟩ := HC.out k hlt
      have HT := hid (Cap.take_snoc l k (by have := HL.out; omega))
      rw [← hbw.cell (p := ⟨b, off + k * 2, none⟩) hb] at g0
      rw [← hbw.cell (p := ⟨b, off + k * 2 + 1, none⟩) hb] at g1
      obtain ⟨s, hs⟩ : ∃ s, s = l.getD k (0, 0) := ⟨_, rfl⟩
      rw [← hs] at g0 g1 y0 y1 HT
      clear hs
      obtain ⟨s1, s2⟩ := s
      simp only at g0 g1 y0 y1
      have HTL := hid (show (l.take k).length = k by rw [List.length_take]; have := HL.out; omega)
      have HO := hid hown
      have HB := hid hbw
      have hwr := hbw.size
      clear hown hbw
      go_wp2_with (at_builtin; go_must (refine app2 rfl (.tmp 30) (.tmp 38) rfl w.heap.size _ (.slice (some ⟨wr.heap.size + 1, 0, none⟩) 1 1) (l.take k) [(s1, s2)] rfl rfl (HO.out.below (((Below.refl _ _).alloc (Nat.le_refl _) _).alloc (by simp) _)) (Rd2.one (by have := heap_alloc_new (wr.alloc (.cells #[.int .u8 (s1 : Int), .int .u8 (s2 : Int)] 29)) (.cells #[.int .u32 (s1 : Int), .int .u32 (s2 : Int)] 24); simpa using this)) (by rw [HTL.out]; simp; omega) (by simp; omega) ?_); intro v1 w1 ho1 hg1)
      go_roundw
      case rel => exact ⟨k + 1, hlt, by go_num, by rw [HT.out]; exact ho1, (((HB.out.alloc (by omega) _).alloc (by simp; omega) _)).grown hg1 (by simp; omega) (fun j hj => (HO.out.lt j hj).1)⟩
      case measure => simp [intOf]; omega
    · obtain rfl : 20 = k := by omega
      have hall : l.take 20 = l := List.take_of_length_le (by have := HL.out; omega)
      rw [hall] at hown
      have HO := hid hown
      have HB := hid hbw
      have hwr := hbw.size
      clear hown hbw hall
      go_wp2_with fail
      obtain ⟨wt, rfl⟩ : ∃ wt : World, wt = wr := ⟨_, rfl⟩
      have hbt : b < wt.heap.size := by omega
      go_loopw [6, 41] (fun n i wr => ∃ T : Nat, T ≤ 256 ∧ i = .int .i64 T ∧ n = .int .i64 (Cap.cnt l T : Int) ∧ Below wt.heap.size wt wr) (fun _ i _ => 256 - (intOf i).toNat)
      case atStart => exact ⟨0, by omega, rfl, rfl, Below.refl _ _⟩
      case round =>
        obtain ⟨T, hT, rfl, rfl, hbt2⟩ := hrel
        have hcl := Cap.cnt_le l T
        have HB2 := hid hbt2
        have hwr2 := hbt2.size
        clear hbt2
        obtain ⟨CN, hCN⟩ : ∃ CN, CN = Cap.cnt l T := ⟨_, rfl⟩
        rw [← hCN] at hcl ⊢
        have HCN := hid hCN
        clear hCN
        by_cases hlt : T < 256
        · obtain ⟨wo, rfl⟩ : ∃ wo : World, wo = wr := ⟨_, rfl⟩
          go_wp2_with fail
          go_loopw [8, 46] (fun v i wr => ∃ k : Nat, k ≤ 20 ∧ i = .int .i64 k ∧ v = .bool (Cap.tin T (l.take k)) ∧ Below wt.heap.size wt wr) (fun _ i _ => 20 - (intOf i).toNat)
          case atStart => exact ⟨0, by omega, rfl, rfl, HB2.out⟩
          case round =>
            obtain ⟨k, hk, rfl, rfl, hbt3⟩ := hrel
            have hwr3 := hbt3.size
            by_cases hlt2 : k < 20
            · obtain ⟨y0, y1, g0, g1⟩ := HC.out k hlt2
              have HT := hid (show Cap.tin T (l.take (k + 1)) = _ by rw [Cap.take_snoc l k (by have := HL.out; omega), Cap.tin_snoc])
              rw [← HB.out.cell (p := ⟨b, off + k * 2, none⟩) hb, ← hbt3.cell (p := ⟨b, off + k * 2, none⟩) hbt] at g0
              rw [← HB.out.cell (p := ⟨b, off + k * 2 + 1, none⟩) hb, ← hbt3.cell (p := ⟨b, off + k * 2 + 1, none⟩) hbt] at g1
              obtain ⟨s, hs⟩ : ∃ s, s = l.getD k (0, 0) := ⟨_, rfl⟩
              rw [← hs] at g0 g1 y0 y1 HT
              clear hs
              obtain ⟨s1, s2⟩ := s
              simp only at g0 g1 y0 y1
              have HB3 := hid hbt3
              clear hbt3
              obtain ⟨B, hB⟩ : ∃ B, B = Cap.tin T (l.take k) := ⟨_, rfl⟩
              rw [← hB] at HT ⊢
              clear hB
              cases B
              · go_wp2
                go_roundw
                case rel => exact ⟨k + 1, hlt2, by go_num, by rw [HT.out]; rfl, HB3.out.alloc (by omega) _⟩
                case measure => simp [intOf]; omega
              · by_cases c1 : s1 ≤ T <;> by_cases c2 : T ≤ s2
                all_goals
                  go_wp2
                  go_roundw
                  case rel => exact ⟨k + 1, hlt2, by go_num, by rw [HT.out]; simp [c1, c2], HB3.out.alloc (by omega) _⟩
                  case measure => simp [intOf]; omega
            · obtain rfl : 20 = k := by omega
              have hall : l.take 20 = l := List.take_of_length_le (by have := HL.out; omega)
              rw [hall]
              have HB3 := hid hbt3
              clear hbt3
              have HS := hid (show Cap.cnt l (T + 1) = Cap.cnt l T + (if Cap.tin T l = true then 1 else 0) from rfl)
              rw [← HCN.out] at HS
              obtain ⟨B, hB⟩ : ∃ B, B = Cap.tin T l := ⟨_, rfl⟩
              rw [← hB] at HS ⊢
              clear hB hall
              cases B
              all_goals
                go_wp2
                go_roundw
                case rel => exact ⟨T + 1, hlt, by go_num, by rw [HS.out]; first | rfl | go_num, HB3.out⟩
                case measure => simp [intOf]; omega
        · obtain rfl : T = 256 := by omega
          have HR := hid (HO.out.below HB2.out)
          go_wp2_with fail
          refine (overlap_any _ l wr HR.out.rd HFIT.out.1).mono ?_
          rintro e wz ⟨rfl, hbz⟩
          have HEQ := hid (show CN = Cap.ov l from HCN.out.trans HCNT.out)
          rw [HEQ.out]
          go_wp2
          go_ret
          exact ⟨rfl, HB.out.trans ((HB2.out.mono hwr).trans (hbz.mono (by omega)))⟩
set_option maxHeartbeats 1000000 in
theorem ct_none (a0 : Option Addr) (cap0 : Nat) (w : World) :
    Calls Try.prog 4 #[.slice a0 0 cap0] w fun e w' => e = .returned (.bool true) ∧ Below w.heap.size w w' := by
  have hq : (((0 : Nat) : Int) == 0) = true := rfl
  go_enter Try.func4, Try.ntmps4
  go_wp2_with fail
  refine (awake3_any _).mono ?_
  rintro e wa ⟨rfl, hba⟩
  go_wp2_with fail
  refine (awake3_any _).mono ?_
  rintro e wb ⟨rfl, hbb⟩
  go_wp2
  go_ret
  exact ⟨rfl, hba.trans (hbb.mono hba.size)⟩

set_option maxHeartbeats 1000000 in
theorem walk (a0 : Option Addr) (len0 cap0 : Nat) (w : World) (w0 : IsL28 w a0 len0 cap0) :
    Calls Try.prog 4 #[.slice a0 len0 cap0] w fun e w' => e = .returned (.bool true) ∧ Below w.heap.size w w' := by
  have hc := w0.bounds
  by_cases h0 : 0 < len0
  · by_cases hk : len0 ≤ 20
    · obtain ⟨l, b, off, rfl, hb, hl, hcs⟩ := IsL28.rd8 w0 len0 (Nat.le_refl _) h0
      exact ct_some b off cap0 len0 hk h0 l w hb hc.1 hc.2.1 hl hcs
    · obtain ⟨l, b, off, rfl, hb, hl, hcs⟩ := IsL28.rd8 w0 20 (by omega) h0
      exact ct_many b off cap0 len0 (by omega) l w hb hc.1 hc.2.1 hl hcs
  · obtain rfl : len0 = 0 := by omega
    exact ct_none a0 cap0 w

/-! ### THE ROW's STEP -/
set_option maxRecDepth 100000 in
theorem lifted (os : Os) (started : os.Started) (H : Type) (enc : TypeId × Value → H) :
    ReturnsInHanded {} Try.checked os 4 .any (Rows.capTicksSpec.pre6 enc Try.prog Try.f4 Rows.capTicksRow.domain false) (Rows.capTicksSpec.post enc Try.prog Try.f4 false true false false) := by
  refine returnsInHanded_of_change (C := Try.checked) own started (by kernel_rfl) Try.func4
    (ChangeSpec.witness6 (enc := enc) (C := Try.checked) false ⟨#[], #[.slice none 0 0], []⟩ 8 (by kernel_rfl) (by kernel_rfl) (by kernel_rfl) (by kernel_rfl)) ?_
  intro W base args ds gs before hval0 hW hcnd _
  have hval : ∀ (j : Nat) t v, Try.f4.params[j]? = some t → args[j]? = some v → Value.okWide Try.prog W .any base t v := hval0
  have hW' := hW
  obtain ⟨p, q, hA0, hV, rfl, hfz, hnd⟩ := hW
  have hA : DataW.TrodAll enc Try.prog W 0 (fun _ => true) true Try.f4.params.toList args.toList ds p := hA0
  rw [Try.params4] at hA hval
  obtain ⟨v0, vs0, d0, ds0, p0, q0, hargs, rfl, rfl, h0, r0⟩ := trodAll_cons hA
  obtain ⟨rfl, rfl, rfl⟩ := trodAll_nil r0
  obtain rfl : args = #[v0] := by cases args; simp_all
  obtain ⟨rfl, rfl⟩ := trodVars_none hV
  have k0 := h0
  have lt0 : ∀ x ∈ p0, x.block < W.heap.size := by obtain ⟨m, hm⟩ := k0; exact DataW.trod_lt m _ _ _ hm
  obtain ⟨a0, len0, cap0, rfl⟩ := okWide_slice Try.underlying28 (hval 0 28 v0 rfl rfl)
  have w0 : IsL28 W a0 len0 cap0 := isL28_of h0
  clear hA0 hval0
  refine (walk a0 len0 cap0 W w0).mono fun e W' ⟨he, bel⟩ => ?_
  subst he
  exact ⟨_, rfl, _, _, _, [], _, [], hW', trodAll_mk1 (shut_bool Try.underlying4 _), (trodAll_cons_mk (Below.trod laidOut (by kernel_rfl) (of_decide_eq_true (by kernel_rfl)) k0 bel lt0) trodAll_mk0), rfl, bel.frame _, fun h => by cases h⟩

theorem over : Rows.capTicksRow.holds Try.pinned (OpenSpec.ofChange Rows.capTicksSpec) :=
  OpenClaim.holds_of_wide 4 Try.f4 rfl rfl rfl rfl rfl rfl rfl ⟨rfl, rfl, rfl, rfl, rfl⟩ rfl rfl rfl rfl rfl (by kernel_rfl) Try.func4 (by kernel_rfl)
    (of_decide_eq_true (by kernel_rfl)) (by unfold Func.isWrapper; first | (rw [if_pos (by decide +kernel)]; kernel_rfl) | (rw [if_neg (by decide +kernel)]; exact ⟨rfl, rfl⟩))
    (fun os started H enc _ => lifted os started H enc)

/-- THE STATEMENT -/
theorem capTicks_holds : Rows.CapTicksSaid := over
#print axioms capTicks_holds
end Go.Proofs.Ytajdhnhnknmedaa.capTicks
