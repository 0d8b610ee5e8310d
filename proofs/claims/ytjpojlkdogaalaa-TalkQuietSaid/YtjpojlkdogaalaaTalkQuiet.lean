/-
  What is answered isn't told again; what isn't is told again and again, each second tick, unchanged but for its Ack: for all things said. No condition.
  (The frame behind the walk is the guide's shell, at these parameters.)
-/
import Derived.Test.YtjpojlkdogaalaaRows
import Derived.WalkKit
import Derived.Test.YtjpojlkdogaalaaTalkQ
import Derived.ProofKit
import Derived.Deep.Cut
import Derived.Deep.CutRange
import Derived.Deep.CutBlock
import Derived.Deep.Grids
import Derived.OpenShut
import Derived.ShutString
import Derived.ChangeOld
import Derived.Below
namespace Go.Proofs.Ytjpojlkdogaalaa.talkQuiet
open Go.ChangeShapes Go.WideShapes Go.ChangeAt Go.RowKit
open Go.ChangeMaps (open_string shut_string)
set_option linter.unusedVariables false

theorem own : ownKnob Try.prog.godebug = none := by kernel_rfl
theorem laidOut : laidOutB Try.prog = true := by kernel_rfl

set_option maxRecDepth 100000 in
set_option maxHeartbeats 8000000 in
theorem walk (a0 : Option Addr) (len0 cap0 : Nat) (a1 : Int) (a2 : Int) (w : World) (w0 : IsMat w a0 len0 cap0) (w1 : (Lit.int .u8 a1).wf = true) (w2 : (Lit.int .u8 a2).wf = true) :
    Calls Try.prog 7 #[.slice a0 len0 cap0, .int .u8 a1, .int .u8 a2] w fun e w' => e = .returned (.bool true) ∧ Below w.heap.size w w' := by
  obtain ⟨ts, htl, htc, hrows⟩ := w0.rows' 30
  have hlb := w0.bounds
  have HR := hid hrows
  have HTL := hid htl
  have HTC := hid htc
  have hl0 : len0 ≤ 9223372036854775807 := by omega
  obtain ⟨x, rfl⟩ := Int.eq_ofNat_of_zero_le (show 0 ≤ a1 by have := bounds_u8 w1; omega)
  obtain ⟨y, rfl⟩ := Int.eq_ofNat_of_zero_le (show 0 ≤ a2 by have := bounds_u8 w2; omega)
  have hxi : (x : Int) < 256 := by have := bounds_u8 w1; omega
  have hyi : (y : Int) < 256 := by have := bounds_u8 w2; omega
  clear w1 w2
  clear w0 hrows htl htc
  go_enter Try.func7, Try.ntmps7
  go_wp2_with fail
  refine (awake10_any w).mono ?_
  rintro e wa ⟨rfl, hba⟩
  have HBA := hid hba
  have hsa := hba.size
  clear hba
  go_wp2_with fail
  refine (talknew_any 1 2 3 wa w.heap.size hsa).mono ?_
  rintro e w1 ⟨rfl, h1, hb1⟩
  rw [tl_new _ _ _ ts] at h1
  have H1 := hid (show TkAt w1 w.heap.size wa.heap.size (tl 1 2 3 ts 0 0) from h1)
  have K1 := hid ((KT.of_below (ts := talkTs) HBA.out (Nat.le_refl _)).trans (KT.of_below hb1 hsa))
  obtain ⟨b, hb⟩ : ∃ b, b = wa.heap.size := ⟨_, rfl⟩
  rw [← hb] at H1
  rw [← hb]
  clear h1 hb1 hb
  go_wp2_with fail
  go_loopw [8, 21] (fun vn i wr => ∃ j : Nat, j ≤ len0 ∧ vn = .int .i64 (min j 20 : Nat) ∧ i = .int .i64 j ∧ TkAt wr w.heap.size b (tl 1 2 3 ts (min j 20) 0) ∧ KT talkTs w.heap.size w wr) (fun _ i _ => len0 - (intOf i).toNat)
  case atStart => exact ⟨0, Nat.zero_le _, by simp, rfl, by rw [show min 0 20 = 0 from rfl]; exact H1.out, K1.out⟩
  case round =>
    obtain ⟨j, hj, rfl, rfl, hA, hK⟩ := hrel
    have HA := hid hA
    have HK := hid hK
    have hsr := hK.size
    clear hA hK
    by_cases hlt : j < len0
    · obtain ⟨t, ht⟩ : ∃ t, ts[j]? = some t := ⟨_, List.getElem?_eq_getElem (by rw [HTL.out]; omega)⟩
      obtain ⟨mb, off, hea, hmb, hrow⟩ := HR.out j t ht
      subst hea
      obtain ⟨A, L, C, hc, m40, l1, l2, l3, l4, hrd⟩ := matrow_at hrow
      rw [show ((30 : Nat) : Int) = 30 from rfl] at m40
      have hcell := (HK.out.below.cell (p := ⟨mb, off + j, none⟩) hmb).trans hc
      have HT := hid ht
      have HF := hid (Far.kt (Far.of_low (n := w.heap.size) hrd (Nat.le_refl _)) HK.out (by decide))
      have HTL2 := hid (HTC.out t (List.mem_of_getElem? ht))
      have hji : (j : Int) < (len0 : Int) := by omega
      clear ht hc hrd hrow
      by_cases h3 : j < 20
      · have e3 : min j 20 = j := by omega
        have e4 : min (j + 1) 20 = j + 1 := by omega
        rw [e3] at HA ⊢
        have HE4 := hid e4
        have h3i : (j : Int) < 20 := by omega
        have HJ3 := hid h3
        clear e3 e4 h3
        go_wp2_with fail
        refine (say_yes w.heap.size b (tl 1 2 3 ts j 0) A C t wr HA.out hsr HF.out (by have := HTL2.out; omega) (by rw [tl_l _ _ _ _ _ _ (by rw [HTL.out]; omega)]; have := HJ3.out; omega) (by rw [tl_all _ _ _ _ _ _ (by rw [HTL.out]; omega)]; have := HJ3.out; omega)).mono ?_
        rintro e w2 ⟨xa, xc, rfl, -, h2, k2⟩
        rw [tl_say _ _ _ _ _ _ t HT.out] at h2
        have H2 := hid h2.free
        have K2 := hid (HK.out.trans k2.kt)
        clear h2 k2
        go_wp2_with fail
        go_roundw
        case rel => exact ⟨j + 1, hlt, by rw [HE4.out]; go_num, by go_num, by rw [HE4.out]; exact H2.out, K2.out⟩
        case measure => simp [intOf]; omega
      · have e3 : min j 20 = 20 := by omega
        have e4 : min (j + 1) 20 = 20 := by omega
        have HE3 := hid e3
        have HE4 := hid e4
        rw [e3] at HA ⊢
        have h3i : ¬ (j : Int) < 20 := by omega
        clear e3 e4 h3 m40 l1 l2 l3 l4
        go_wp2_with fail
        go_roundw
        case rel => exact ⟨j + 1, hlt, by rw [HE4.out], by go_num, by rw [HE4.out]; exact HA.out, HK.out⟩
        case measure => simp [intOf]; omega
    · obtain rfl : j = len0 := by omega
      obtain ⟨N, hN⟩ : ∃ N, N = min j 20 := ⟨_, rfl⟩
      rw [← hN] at HA ⊢
      have HNL := hid (show N ≤ ts.length by rw [HTL.out]; omega)
      have hN30 : N ≤ 20 := by omega
      have HNj := hid (show N ≤ j by omega)
      obtain ⟨k, hk⟩ : ∃ k, k = x % (N + 1) := ⟨_, rfl⟩
      have hkN : k ≤ N := by rw [hk]; exact Nat.le_of_lt_succ (Nat.mod_lt _ (Nat.succ_pos N))
      have ek : (x : Int) % ((N : Int) + 1) = (k : Int) := by rw [hk]; simp
      obtain ⟨M, hM⟩ : ∃ M, M = 1 + y % 12 := ⟨_, rfl⟩
      have eM : (1 : Int) + (y : Int) % 12 = (M : Int) := by omega
      have hM12 : M ≤ 12 := by omega
      have EM := hid eM
      clear hN hlt hk hM eM
      go_wp2_with fail
      try rw [ek]
      clear ek
      refine (hear_any w.heap.size b (tl 1 2 3 ts N 0) (kl 1 2 3 k) none 0 wr HA.out hsr (Far.nil _ _) (by show 0 ≤ 1000000; omega) (by show 0 < 1000000; omega)).mono ?_
      rintro e w7 ⟨x1, c1, x2, c2, rfl, -, -, h7, k7⟩
      rw [tl_hear _ _ _ _ _ _ _ HNL.out hkN, Nat.zero_max, tq_zero] at h7
      have H7 := hid h7
      have K7 := hid (HK.out.trans k7.kt)
      clear h7 k7
      go_wp2_with fail
      try rw [EM.out]
      go_loopw [51] (fun i wr => ∃ q : Nat, q ≤ M ∧ i = .int .i64 q ∧ TkAt wr w.heap.size b (tq ts N k q) ∧ KT talkTs w.heap.size w wr) (fun i _ => M - (intOf i).toNat)
      case atStart => exact ⟨0, Nat.zero_le _, rfl, H7.out, K7.out⟩
      case round =>
        obtain ⟨q, hq, rfl, hA, hK⟩ := hrel
        have HA2 := hid hA
        have HK2 := hid hK
        have hsx := hK.size
        clear hA hK
        by_cases hlt : q < M
        · have hqi : (q : Int) < (M : Int) := by omega
          have HQC := hid (show (tq ts N k q).clock < 1000000 by show q < 1000000; omega)
          go_wp2_with fail
          refine (tick_any w.heap.size b (tq ts N k q) wr HA2.out hsx HQC.out).mono ?_
          rintro e w3 ⟨va, vc, rfl, hp, h3, k3⟩
          rw [tq_tick _ _ _ _ HNL.out hkN] at h3
          have H3 := hid h3
          have K3 := hid (HK2.out.trans k3.kt)
          have hs3 := k3.size
          clear h3 k3
          by_cases hpar : q % 2 = 0
          · rw [tq_even _ _ _ _ HNL.out hkN hpar] at hp ⊢
            have hpi : (q : Int) % 2 = 0 := by omega
            clear hpar hp
            dsimp only
            go_wp2_with fail
            go_roundw
            case rel => exact ⟨q + 1, hlt, by go_num, H3.out, K3.out⟩
            case measure => simp [intOf]; omega
          · rw [tq_odd _ _ _ _ HNL.out hkN (by omega), Tk.packs_len] at hp ⊢
            have hpi : ((q : Int) % 2 == 0) = false := by rw [beq_eq_false_iff_ne]; omega
            obtain ⟨D, hD⟩ : ∃ D, D = N - k := ⟨_, rfl⟩
            rw [← hD] at hp ⊢
            have eD : (N : Int) - (k : Int) = (D : Int) := by omega
            have HP := hid hp
            have HD := hid hD
            have hD20 : D ≤ 20 := by omega
            clear hp hpar hD
            dsimp only
            go_wp2_with fail
            clear hpi
            go_loopw [70] (fun i wr => ∃ p : Nat, p ≤ D ∧ i = .int .i64 p ∧ Below w3.heap.size w3 wr) (fun i _ => D - (intOf i).toNat)
            case atStart => exact ⟨0, Nat.zero_le _, rfl, Below.refl _ _⟩
            case round =>
              obtain ⟨p, hp, rfl, hbr⟩ := hrel
              have HBR := hid hbr
              have hs4 := hbr.size
              clear hbr
              by_cases hlp : p < D
              · obtain ⟨t, ht⟩ : ∃ t, ts[k + p]? = some t := ⟨_, List.getElem?_eq_getElem (by have := HNL.out; have := HD.out; omega)⟩
                obtain ⟨mb, off, hea, hmb, hrow⟩ := HR.out (k + p) t ht
                subst hea
                obtain ⟨A, L, C, hc, m40, l1, l2, l3, l4, hrd⟩ := matrow_at hrow
                rw [show ((30 : Nat) : Int) = 30 from rfl] at m40
                have hpk : ((tq ts N k q).packs D)[p]? = some ⟨1, 2, 3, k + p + 1, 0, false, t⟩ := by
                  unfold Tk.packs
                  rw [List.getElem?_map, List.getElem?_range hlp, Option.map_some, tq_nth ts N k q p HNL.out hkN (by have := HD.out; omega) t ht]
                obtain ⟨g, va2, vc2, hva, hgl, hc1, hc2, hrg, hown⟩ := (HP.out.below HBR.out).at hpk
                subst hva
                have HRG := hid hrg
                have HMC := hid hc
                have HRD := hid hrd
                have HOW := hid hown
                have hp0 : (p : Int) < (D : Int) := by omega
                have hkp : (k : Int) + (p : Int) < (j : Int) := by have := HNj.out; have := HD.out; omega
                have hkp0 : (0 : Int) ≤ (k : Int) + (p : Int) := by omega
                clear hc hrg hrd hrow hpk hown ht
                go_wp2_with (first
                  | (refine wpList_load_mid rfl 31 (.tmp 73) rfl g (p * 7) rfl _ _ HRG.out Try.underlying31 rfl (by rw [size_packet]; rfl) ?_)
                  | (refine pk_fresh rfl (.tmp 15) (.tmp 74) rfl wr (.int .u8 1) (.int .u32 2) (.int .u32 3) (.int .u32 ((k + p + 1 : Nat) : Int)) (.int .u32 0) (.bool false) (.slice va2 t.length vc2) rfl rfl (by simp [Value.oneCell']) ?_; intro w5 hg5 hb5
                     have x3 : w5.cell? ⟨wr.heap.size, 3, none⟩ = some (.int .u32 ((k + p + 1 : Nat) : Int)) := (cell_of_row _ _ _ _ _ _ hg5).trans rfl
                     have x6 : w5.cell? ⟨wr.heap.size, 6, none⟩ = some (.slice va2 t.length vc2) := (cell_of_row _ _ _ _ _ _ hg5).trans rfl
                     have HB5 := hid hb5
                     have HBW := hid (show Below w.heap.size w w5 from (K3.out.below.trans (HBR.out.mono (Nat.le_trans hsx hs3))).trans (hb5.mono (Nat.le_trans (Nat.le_trans hsx hs3) HBR.out.size)))
                     have xm := (HBW.out.cell (p := ⟨mb, off + (k + p), none⟩) hmb).trans HMC.out
                     clear hg5 hb5)
                  | fail)
                have e3 : ((k + p + 1 : Nat) : Int) = (k : Int) + (p : Int) + 1 := by omega
                rw [e3] at x3
                have HWQ := hid (show IntKind.u32.wrap ((k : Int) + (p : Int) + 1) = (k : Int) + (p : Int) + 1 by rw [IntKind.wrap_u32]; omega)
                have hwq := HWQ.out
                have hxa := HRD.out.below HBW.out
                have HX1 := hid hxa
                have HX2 := hid (HOW.out.below HB5.out).rd
                clear hxa e3
                go_quiet (first | (go_at_call 15; exact quiet_first (same_eq _ _ t _ (HX2.out.drewN _) (HX1.out.drewN _))) | fail)
                clear hwq x3 x6 xm
                go_wp2_with fail
                go_roundw
                case rel => exact ⟨p + 1, hlp, by go_num, below_behind ((HBR.out).trans (HB5.out.mono HBR.out.size)) _⟩
                case measure => simp [intOf]; omega
              · obtain rfl : p = D := by omega
                go_wp2_with fail
                go_roundw
                case rel => exact ⟨q + 1, hlt, by go_num, H3.out.below HBR.out, K3.out.trans (KT.of_below HBR.out (Nat.le_trans hsx hs3))⟩
                case measure => simp [intOf]; omega
        · obtain rfl : q = M := by omega
          go_wp2_with (first | (go_at_call 23; refine (open_any w.heap.size b _ wr HA2.out).mono ?_; rintro e w8 ⟨rfl, rfl⟩; rw [tq_len _ _ _ _ HNL.out hkN, show ((N - k : Nat) : Int) = (N : Int) - (k : Int) by omega]) | fail)
          go_ret
          exact ⟨rfl, HK2.out.below⟩

/-! ### THE ROW's STEP -/
set_option maxRecDepth 100000 in
theorem lifted (os : Os) (started : os.Started) (H : Type) (enc : TypeId × Value → H) :
    ReturnsInHanded {} Try.checked os 7 .any (Rows.talkQuietSpec.pre6 enc Try.prog Try.f7 Rows.talkQuietRow.domain false) (Rows.talkQuietSpec.post enc Try.prog Try.f7 false true false false) := by
  refine returnsInHanded_of_change (C := Try.checked) own started (by kernel_rfl) Try.func7
    (ChangeSpec.witness6 (enc := enc) (C := Try.checked) false ⟨#[], #[.slice none 0 0, .int .u8 0, .int .u8 0], []⟩ 8 (by kernel_rfl) (by kernel_rfl) (by kernel_rfl) (by kernel_rfl)) ?_
  intro W base args ds gs before hval0 hW hcnd _
  have hval : ∀ (j : Nat) t v, Try.f7.params[j]? = some t → args[j]? = some v → Value.okWide Try.prog W .any base t v := hval0
  have hW' := hW
  obtain ⟨p, q, hA0, hV, rfl, hfz, hnd⟩ := hW
  have hA : DataW.TrodAll enc Try.prog W 0 (fun _ => true) true Try.f7.params.toList args.toList ds p := hA0
  rw [Try.params7] at hA hval
  obtain ⟨v0, vs0, d0, ds0, p0, q0, hargs, rfl, rfl, h0, r0⟩ := trodAll_cons hA
  obtain ⟨v1, vs1, d1, ds1, p1, q1, rfl, rfl, rfl, h1, r1⟩ := trodAll_cons r0
  obtain ⟨v2, vs2, d2, ds2, p2, q2, rfl, rfl, rfl, h2, r2⟩ := trodAll_cons r1
  obtain ⟨rfl, rfl, rfl⟩ := trodAll_nil r2
  obtain rfl : args = #[v0, v1, v2] := by cases args; simp_all
  obtain ⟨rfl, rfl⟩ := trodVars_none hV
  have k0 := h0
  have lt0 : ∀ x ∈ p0, x.block < W.heap.size := by obtain ⟨m, hm⟩ := k0; exact DataW.trod_lt m _ _ _ hm
  have k1 := h1
  have lt1 : ∀ x ∈ p1, x.block < W.heap.size := by obtain ⟨m, hm⟩ := k1; exact DataW.trod_lt m _ _ _ hm
  have k2 := h2
  have lt2 : ∀ x ∈ p2, x.block < W.heap.size := by obtain ⟨m, hm⟩ := k2; exact DataW.trod_lt m _ _ _ hm
  obtain ⟨a0, len0, cap0, rfl⟩ := okWide_slice Try.underlying50 (hval 0 50 v0 rfl rfl)
  have w0 : IsMat W a0 len0 cap0 := isMat_of h0
  obtain ⟨a1, rfl, rfl, rfl, w1⟩ := open_int Try.underlying5 (hval 1 5 v1 rfl rfl) h1
  obtain ⟨a2, rfl, rfl, rfl, w2⟩ := open_int Try.underlying5 (hval 2 5 v2 rfl rfl) h2
  clear hA0 hval0
  refine (walk a0 len0 cap0 a1 a2 W w0 w1 w2).mono fun e W' ⟨he, bel⟩ => ?_
  subst he
  exact ⟨_, rfl, _, _, _, [], _, [], hW', trodAll_mk1 (shut_bool Try.underlying4 _), (trodAll_cons_mk (Below.trod laidOut (by kernel_rfl) (of_decide_eq_true (by kernel_rfl)) k0 bel lt0) (trodAll_cons_mk (Below.trod laidOut (by kernel_rfl) (of_decide_eq_true (by kernel_rfl)) k1 bel lt1) (trodAll_cons_mk (Below.trod laidOut (by kernel_rfl) (of_decide_eq_true (by kernel_rfl)) k2 bel lt2) trodAll_mk0))), rfl, bel.frame _, fun h => by cases h⟩

theorem over : Rows.talkQuietRow.holds Try.pinned (OpenSpec.ofChange Rows.talkQuietSpec) :=
  OpenClaim.holds_of_wide 7 Try.f7 rfl rfl rfl rfl rfl rfl rfl ⟨rfl, rfl, rfl, rfl, rfl⟩ rfl rfl rfl rfl rfl (by kernel_rfl) Try.func7 (by kernel_rfl)
    (of_decide_eq_true (by kernel_rfl)) (by unfold Func.isWrapper; first | (rw [if_pos (by decide +kernel)]; kernel_rfl) | (rw [if_neg (by decide +kernel)]; exact ⟨rfl, rfl⟩))
    (fun os started H enc _ => lifted os started H enc)

/-- THE STATEMENT -/
theorem talkQuiet_holds : Rows.TalkQuietSaid := over
#print axioms talkQuiet_holds
end Go.Proofs.Ytjpojlkdogaalaa.talkQuiet
