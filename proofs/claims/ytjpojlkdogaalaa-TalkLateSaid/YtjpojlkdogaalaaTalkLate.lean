/-
  However late an answer comes, and however often, it answers no more than it did: for all things said and all answers. No condition.
  (The frame behind the walk is the guide's shell, at these parameters.)
-/
import Derived.Test.YtjpojlkdogaalaaRows
import Derived.WalkKit
import Derived.Test.YtjpojlkdogaalaaTalkW
import Derived.ProofKit
import Derived.Deep.Cut
import Derived.Deep.CutRange
import Derived.Deep.CutBlock
import Derived.Deep.Grids
import Derived.OpenShut
import Derived.ShutString
import Derived.ChangeOld
import Derived.Below
namespace Go.Proofs.Ytjpojlkdogaalaa.talkLate
open Go.ChangeShapes Go.WideShapes Go.ChangeAt Go.RowKit
open Go.ChangeMaps (open_string shut_string)
set_option linter.unusedVariables false

theorem own : ownKnob Try.prog.godebug = none := by kernel_rfl
theorem laidOut : laidOutB Try.prog = true := by kernel_rfl

set_option maxRecDepth 100000 in
set_option maxHeartbeats 4000000 in
theorem walk (a0 : Option Addr) (len0 cap0 : Nat) (a1 : Option Addr) (len1 cap1 : Nat) (z1 : List Int) (w : World) (w0 : IsMat w a0 len0 cap0) (w1 : IsRow .u8 w a1 len1 cap1 z1) :
    Calls Try.prog 8 #[.slice a0 len0 cap0, .slice a1 len1 cap1] w fun e w' => e = .returned (.bool true) ∧ Below w.heap.size w w' := by
  obtain ⟨ts, htl, htc, hrows⟩ := w0.rows' 20
  have hlb := w0.bounds
  have HR := hid hrows
  have HTL := hid htl
  have HTC := hid htc
  have hl0 : len0 ≤ 9223372036854775807 := by omega
  obtain ⟨l1, hl1, hrd1⟩ := w1.rd len1 (Nat.le_refl _)
  have hb1' := w1.bounds
  have HRD1 := hid hrd1
  have HL1 := hid hl1
  have hle1 : len1 ≤ 9223372036854775807 := by omega
  clear w1 hrd1 hl1
  clear w0 hrows htl htc
  go_enter Try.func8, Try.ntmps8
  go_wp2_with fail
  refine (awake10_any w).mono ?_
  rintro e wa ⟨rfl, hba⟩
  have HBA := hid hba
  have hsa := hba.size
  clear hba
  go_wp2_with fail
  refine (talknew_any 1 2 3 wa w.heap.size hsa).mono ?_
  rintro e w1 ⟨rfl, h1, hb1⟩
  rw [tl_new _ _ _ ts] at h1
  have H1 := hid (show TkAt w1 w.heap.size wa.heap.size (tl 1 2 3 ts 0 0) from h1)
  have K1 := hid ((KT.of_below (ts := talkTs) HBA.out (Nat.le_refl _)).trans (KT.of_below hb1 hsa))
  obtain ⟨b, hb⟩ : ∃ b, b = wa.heap.size := ⟨_, rfl⟩
  rw [← hb] at H1
  rw [← hb]
  clear h1 hb1 hb
  go_wp2_with fail
  go_loopw [6, 18] (fun vn i wr => ∃ j : Nat, j ≤ len0 ∧ vn = .int .i64 (min j 30 : Nat) ∧ i = .int .i64 j ∧ TkAt wr w.heap.size b (tl 1 2 3 ts (min j 30) 0) ∧ KT talkTs w.heap.size w wr) (fun _ i _ => len0 - (intOf i).toNat)
  case atStart => exact ⟨0, Nat.zero_le _, by simp, rfl, by rw [show min 0 30 = 0 from rfl]; exact H1.out, K1.out⟩
  case round =>
    obtain ⟨j, hj, rfl, rfl, hA, hK⟩ := hrel
    have HA := hid hA
    have HK := hid hK
    have hsr := hK.size
    clear hA hK
    by_cases hlt : j < len0
    · obtain ⟨t, ht⟩ : ∃ t, ts[j]? = some t := ⟨_, List.getElem?_eq_getElem (by rw [HTL.out]; omega)⟩
      obtain ⟨mb, off, hea, hmb, hrow⟩ := HR.out j t ht
      subst hea
      obtain ⟨A, L, C, hc, m40, l1, l2, l3, l4, hrd⟩ := matrow_at hrow
      rw [show ((20 : Nat) : Int) = 20 from rfl] at m40
      have hcell := (HK.out.below.cell (p := ⟨mb, off + j, none⟩) hmb).trans hc
      have HT := hid ht
      have HF := hid (Far.kt (Far.of_low (n := w.heap.size) hrd (Nat.le_refl _)) HK.out (by decide))
      have HTL2 := hid (HTC.out t (List.mem_of_getElem? ht))
      have hji : (j : Int) < (len0 : Int) := by omega
      clear ht hc hrd hrow
      by_cases h3 : j < 30
      · have e3 : min j 30 = j := by omega
        have e4 : min (j + 1) 30 = j + 1 := by omega
        rw [e3] at HA ⊢
        have HE4 := hid e4
        have h3i : (j : Int) < 30 := by omega
        have HJ3 := hid h3
        clear e3 e4 h3
        go_wp2_with fail
        refine (say_yes w.heap.size b (tl 1 2 3 ts j 0) A C t wr HA.out hsr HF.out (by have := HTL2.out; omega) (by rw [tl_l _ _ _ _ _ _ (by rw [HTL.out]; omega)]; have := HJ3.out; omega) (by rw [tl_all _ _ _ _ _ _ (by rw [HTL.out]; omega)]; have := HJ3.out; omega)).mono ?_
        rintro e w2 ⟨xa, xc, rfl, -, h2, k2⟩
        rw [tl_say _ _ _ _ _ _ t HT.out] at h2
        have H2 := hid h2.free
        have K2 := hid (HK.out.trans k2.kt)
        clear h2 k2
        go_wp2_with fail
        go_roundw
        case rel => exact ⟨j + 1, hlt, by rw [HE4.out]; go_num, by go_num, by rw [HE4.out]; exact H2.out, K2.out⟩
        case measure => simp [intOf]; omega
      · have e3 : min j 30 = 30 := by omega
        have e4 : min (j + 1) 30 = 30 := by omega
        have HE3 := hid e3
        have HE4 := hid e4
        rw [e3] at HA ⊢
        have h3i : ¬ (j : Int) < 30 := by omega
        clear e3 e4 h3 m40 l1 l2 l3 l4
        go_wp2_with fail
        go_roundw
        case rel => exact ⟨j + 1, hlt, by rw [HE4.out], by go_num, by rw [HE4.out]; exact HA.out, HK.out⟩
        case measure => simp [intOf]; omega
    · obtain rfl : j = len0 := by omega
      obtain ⟨N, hN⟩ : ∃ N, N = min j 30 := ⟨_, rfl⟩
      rw [← hN] at HA ⊢
      have HNL := hid (show N ≤ ts.length by rw [HTL.out]; omega)
      have hN30 : N ≤ 30 := by omega
      clear hN hlt hlb hl0 HR HTC HTL
      go_wp2_with fail
      go_loopw [9, 36] (fun vb i wx => ∃ q m : Nat, q ≤ len1 ∧ m ≤ N ∧ vb = .int .i64 m ∧ i = .int .i64 q ∧ TkAt wx w.heap.size b (tl 1 2 3 ts N m) ∧ KT talkTs w.heap.size w wx) (fun _ i _ => len1 - (intOf i).toNat)
      case atStart => exact ⟨0, 0, Nat.zero_le _, Nat.zero_le _, rfl, rfl, HA.out, HK.out⟩
      case round =>
        obtain ⟨q, m, hq, hm, rfl, rfl, hA, hK⟩ := hrel
        have HA2 := hid hA
        have HK2 := hid hK
        have hsx := hK.size
        clear hA hK
        by_cases hlt : q < len1
        · obtain ⟨cb, co, ea, hcb, hcc⟩ := HRD1.out.cellsAt (by omega)
          subst ea
          have hcell := (HK2.out.below.cell (p := ⟨cb, co + q, none⟩) hcb).trans (hcc q hlt)
          rw [bv_eq] at hcell
          obtain ⟨x, hx⟩ : ∃ x, x = (l1.getD q 0).toNat := ⟨_, rfl⟩
          rw [← hx] at hcell
          have hxb : x < 256 := by rw [hx]; exact (l1.getD q 0).toNat_lt
          obtain ⟨k, hk⟩ : ∃ k, k = x % (N + 1) := ⟨_, rfl⟩
          have hkN : k ≤ N := by rw [hk]; exact Nat.le_of_lt_succ (Nat.mod_lt _ (Nat.succ_pos N))
          have ek : (x : Int) % ((N : Int) + 1) = (k : Int) := by rw [hk]; simp
          have hqi : (q : Int) < (len1 : Int) := by omega
          have hxi : (x : Int) < 256 := by omega
          clear hx hcc hk hxb
          by_cases h40 : q < 40
          · have h40i : ¬ (40 : Int) ≤ (q : Int) := by omega
            clear h40
            go_wp2_with fail
            try rw [ek]
            clear ek
            refine (hear_any w.heap.size b (tl 1 2 3 ts N m) (kl 1 2 3 k) none 0 wr HA2.out hsx (Far.nil _ _) (by show 0 ≤ 1000000; omega) (by show 0 < 1000000; omega)).mono ?_
            rintro e w7 ⟨x1, c1, x2, c2, rfl, -, -, h7, k7⟩
            rw [tl_hear _ _ _ _ _ _ _ HNL.out hkN] at h7
            by_cases hmk : m < k
            · rw [show max m k = k by omega] at h7
              have em : (m : Int) < (k : Int) := by omega
              have H7 := hid h7
              have K7 := hid (HK2.out.trans k7.kt)
              have hvN : k ≤ N := by omega
              clear h7 k7 hmk
              go_wp2_with (first | (go_at_call 23; refine (open_any w.heap.size b (tl 1 2 3 ts N k) w7 H7.out).mono ?_; rintro e w8 ⟨rfl, rfl⟩; rw [tl_l _ _ _ _ _ _ HNL.out, show ((N - k : Nat) : Int) = (N : Int) - (k : Int) by omega]) | (go_at_call 24; refine (heard_any w.heap.size b (tl 1 2 3 ts N k) w7 H7.out).mono ?_; rintro e w8 ⟨rfl, rfl⟩; rw [tl_heard]) | fail)
              go_roundw
              case rel => exact ⟨q + 1, k, hlt, hvN, rfl, by go_num, H7.out, K7.out⟩
              case measure => simp [intOf]; omega
            · rw [show max m k = m by omega] at h7
              have em : ¬ (m : Int) < (k : Int) := by omega
              have H7 := hid h7
              have K7 := hid (HK2.out.trans k7.kt)
              have hvN : m ≤ N := by omega
              clear h7 k7 hmk
              go_wp2_with (first | (go_at_call 23; refine (open_any w.heap.size b (tl 1 2 3 ts N m) w7 H7.out).mono ?_; rintro e w8 ⟨rfl, rfl⟩; rw [tl_l _ _ _ _ _ _ HNL.out, show ((N - m : Nat) : Int) = (N : Int) - (m : Int) by omega]) | (go_at_call 24; refine (heard_any w.heap.size b (tl 1 2 3 ts N m) w7 H7.out).mono ?_; rintro e w8 ⟨rfl, rfl⟩; rw [tl_heard]) | fail)
              go_roundw
              case rel => exact ⟨q + 1, m, hlt, hvN, rfl, by go_num, H7.out, K7.out⟩
              case measure => simp [intOf]; omega
          · have h40i : (40 : Int) ≤ (q : Int) := by omega
            clear h40 ek hxi
            go_wp2_with fail
            go_ret
            exact ⟨rfl, HK2.out.below⟩
        · obtain rfl : q = len1 := by omega
          clear hlt
          go_wp2_with fail
          go_ret
          exact ⟨rfl, HK2.out.below⟩

/-! ### THE ROW's STEP -/
set_option maxRecDepth 100000 in
theorem lifted (os : Os) (started : os.Started) (H : Type) (enc : TypeId × Value → H) :
    ReturnsInHanded {} Try.checked os 8 .any (Rows.talkLateSpec.pre6 enc Try.prog Try.f8 Rows.talkLateRow.domain false) (Rows.talkLateSpec.post enc Try.prog Try.f8 false true false false) := by
  refine returnsInHanded_of_change (C := Try.checked) own started (by kernel_rfl) Try.func8
    (ChangeSpec.witness6 (enc := enc) (C := Try.checked) false ⟨#[], #[.slice none 0 0, .slice none 0 0], []⟩ 8 (by kernel_rfl) (by kernel_rfl) (by kernel_rfl) (by kernel_rfl)) ?_
  intro W base args ds gs before hval0 hW hcnd _
  have hval : ∀ (j : Nat) t v, Try.f8.params[j]? = some t → args[j]? = some v → Value.okWide Try.prog W .any base t v := hval0
  have hW' := hW
  obtain ⟨p, q, hA0, hV, rfl, hfz, hnd⟩ := hW
  have hA : DataW.TrodAll enc Try.prog W 0 (fun _ => true) true Try.f8.params.toList args.toList ds p := hA0
  rw [Try.params8] at hA hval
  obtain ⟨v0, vs0, d0, ds0, p0, q0, hargs, rfl, rfl, h0, r0⟩ := trodAll_cons hA
  obtain ⟨v1, vs1, d1, ds1, p1, q1, rfl, rfl, rfl, h1, r1⟩ := trodAll_cons r0
  obtain ⟨rfl, rfl, rfl⟩ := trodAll_nil r1
  obtain rfl : args = #[v0, v1] := by cases args; simp_all
  obtain ⟨rfl, rfl⟩ := trodVars_none hV
  have k0 := h0
  have lt0 : ∀ x ∈ p0, x.block < W.heap.size := by obtain ⟨m, hm⟩ := k0; exact DataW.trod_lt m _ _ _ hm
  have k1 := h1
  have lt1 : ∀ x ∈ p1, x.block < W.heap.size := by obtain ⟨m, hm⟩ := k1; exact DataW.trod_lt m _ _ _ hm
  obtain ⟨a0, len0, cap0, rfl⟩ := okWide_slice Try.underlying50 (hval 0 50 v0 rfl rfl)
  have w0 : IsMat W a0 len0 cap0 := isMat_of h0
  obtain ⟨a1, len1, cap1, rfl⟩ := okWide_slice Try.underlying29 (hval 1 29 v1 rfl rfl)
  obtain ⟨z1, w1⟩ : ∃ zs, IsRow .u8 W a1 len1 cap1 zs := by
    obtain ⟨fuel, hf⟩ := h1
    rcases open_ints Try.underlying29 Try.underlying5 (by kernel_rfl) hf with ⟨hcs, _⟩ | ⟨x, l, c, zs, hcs, _, hl, hm, hz, _, hcell, hwz⟩
    · simp [Value.cells] at hcs
      obtain ⟨rfl, rfl, rfl⟩ := hcs
      exact ⟨[], .inl ⟨rfl, rfl, rfl, rfl⟩⟩
    · simp [Value.cells] at hcs
      obtain ⟨rfl, rfl, rfl⟩ := hcs
      exact ⟨zs, .inr ⟨_, rfl, hl, hm, by simpa using hz, hcell, hwz⟩⟩
  clear hA0 hval0
  refine (walk a0 len0 cap0 a1 len1 cap1 z1 W w0 w1).mono fun e W' ⟨he, bel⟩ => ?_
  subst he
  exact ⟨_, rfl, _, _, _, [], _, [], hW', trodAll_mk1 (shut_bool Try.underlying4 _), (trodAll_cons_mk (Below.trod laidOut (by kernel_rfl) (of_decide_eq_true (by kernel_rfl)) k0 bel lt0) (trodAll_cons_mk (Below.trod laidOut (by kernel_rfl) (of_decide_eq_true (by kernel_rfl)) k1 bel lt1) trodAll_mk0)), rfl, bel.frame _, fun h => by cases h⟩

theorem over : Rows.talkLateRow.holds Try.pinned (OpenSpec.ofChange Rows.talkLateSpec) :=
  OpenClaim.holds_of_wide 8 Try.f8 rfl rfl rfl rfl rfl rfl rfl ⟨rfl, rfl, rfl, rfl, rfl⟩ rfl rfl rfl rfl rfl (by kernel_rfl) Try.func8 (by kernel_rfl)
    (of_decide_eq_true (by kernel_rfl)) (by unfold Func.isWrapper; first | (rw [if_pos (by decide +kernel)]; kernel_rfl) | (rw [if_neg (by decide +kernel)]; exact ⟨rfl, rfl⟩))
    (fun os started H enc _ => lifted os started H enc)

/-- THE STATEMENT -/
theorem talkLate_holds : Rows.TalkLateSaid := over
#print axioms talkLate_holds
end Go.Proofs.Ytjpojlkdogaalaa.talkLate
