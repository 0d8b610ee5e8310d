/-
  So many things wait and no more; once some are answered there is room: for every number. No condition.
  (The frame behind the walk is the guide's shell, at these parameters.)
-/
import Derived.Test.YtjpojlkdogaalaaRows
import Derived.WalkKit
import Derived.Test.YtjpojlkdogaalaaTalkP
import Derived.ProofKit
import Derived.Deep.Cut
import Derived.Deep.CutRange
import Derived.Deep.CutBlock
import Derived.Deep.Grids
import Derived.OpenShut
import Derived.ShutString
import Derived.ChangeOld
import Derived.Below
namespace Go.Proofs.Ytjpojlkdogaalaa.talkFull
open Go.ChangeShapes Go.WideShapes Go.ChangeAt Go.RowKit
open Go.ChangeMaps (open_string shut_string)
set_option linter.unusedVariables false

theorem own : ownKnob Try.prog.godebug = none := by kernel_rfl
theorem laidOut : laidOutB Try.prog = true := by kernel_rfl

/-- Behind j things that are empty. -/
def tf (j d : Nat) : Tk := ⟨0, 1, 1, List.replicate j ⟨[], 0⟩, d, 0, 0⟩

theorem tf_say (j d : Nat) : (tf j d).say [] = tf (j + 1) d := by
  simp [tf, Tk.say, List.replicate_succ']

theorem tf_l (j d : Nat) : (tf j d).l.length = j - d := by simp [tf, Tk.l]

def kf (k : Nat) : Pk := ⟨0, 1, 1, 0, k, false, []⟩

theorem tf_hear (m k : Nat) (h : k ≤ m) : (tf m 0).hear (kf k) = tf m k := by
  have hm : (tf m 0).mine (kf k) = true := by simp [Tk.mine, tf, kf, h]
  unfold Tk.hear
  rw [if_neg (by rw [hm]; decide), if_neg (by simp [kf, tf])]
  simp [Tk.settle, tf, kf]

theorem tf_all (j d : Nat) : (tf j d).all.length = j := by simp [tf]

set_option maxRecDepth 100000 in
set_option maxHeartbeats 4000000 in
theorem walk (a0 : Int) (w : World) (w0 : (Lit.int .u16 a0).wf = true) :
    Calls Try.prog 6 #[.int .u16 a0] w fun e w' => e = .returned (.bool true) ∧ Below w.heap.size w w' := by
  obtain ⟨n, rfl⟩ := Int.eq_ofNat_of_zero_le (show 0 ≤ a0 by have := bounds_u16 w0; omega)
  have hn : n < 65536 := by have := bounds_u16 w0; omega
  clear w0
  obtain ⟨k, hk⟩ : ∃ k, k = n % 257 := ⟨_, rfl⟩
  have ek : IntKind.u32.wrap (n : Int) % 257 = (k : Int) := by rw [IntKind.wrap_u32]; omega
  have ek2 : (n : Int) % 257 = (k : Int) := by omega
  have hk2 : k ≤ 256 := by omega
  have HK2 := hid hk2
  have HNN := hid (show (n : Int) < 65536 by omega)
  clear hk hk2 hn
  go_enter Try.func6, Try.ntmps6
  go_wp2_with fail
  refine (awake10_any w).mono ?_
  rintro e wa ⟨rfl, hba⟩
  have HBA := hid hba
  have hsa := hba.size
  clear hba
  have EK := hid ek
  have EK2 := hid ek2
  clear ek ek2
  go_wp2_with fail
  refine (talknew_any 0 1 1 wa w.heap.size hsa).mono ?_
  rintro e w1 ⟨rfl, h1, hb1⟩
  have H1 := hid (show TkAt w1 w.heap.size wa.heap.size (tf 0 0) from h1)
  have K1 := hid ((KT.of_below (ts := talkTs) HBA.out (Nat.le_refl _)).trans (KT.of_below hb1 hsa))
  obtain ⟨b, hb⟩ : ∃ b, b = wa.heap.size := ⟨_, rfl⟩
  rw [← hb] at H1
  rw [← hb]
  clear h1 hb1 hb
  go_wp2_with fail
  go_loopw [16] (fun i wr => ∃ j : Nat, j ≤ 256 ∧ i = .int .i64 j ∧ TkAt wr w.heap.size b (tf j 0) ∧ KT talkTs w.heap.size w wr) (fun i _ => 256 - (intOf i).toNat)
  case atStart => exact ⟨0, Nat.zero_le _, rfl, H1.out, K1.out⟩
  case round =>
    obtain ⟨j, hj, rfl, hA, hK⟩ := hrel
    have HA := hid hA
    have HK := hid hK
    have hsr := hK.size
    clear hA hK
    by_cases hlt : j < 256
    · have hlt2 : (j : Int) < 256 := by omega
      have HLT := hid hlt
      clear hlt hj
      go_wp2_with fail
      have hlt := HLT.out
      refine (say_yes w.heap.size b (tf j 0) none 0 [] wr HA.out hsr (Far.nil _ _) (by simp) (by rw [tf_l]; omega) (by rw [tf_all]; omega)).mono ?_
      rintro e w2 ⟨xa, xc, rfl, -, h2, k2⟩
      rw [tf_say] at h2
      have H2 := hid h2.free
      have K2 := hid (HK.out.trans k2.kt)
      clear h2 k2
      go_wp2_with (first | (refine pk_fresh rfl (.tmp 4) (.tmp 21) rfl w2 _ _ _ _ _ _ _ rfl rfl (by simp [Value.oneCell']) ?_; intro w3 hgw3 hbw3; have HBw3 := hid hbw3; clear hgw3 hbw3) | fail)
      go_roundw
      case rel => exact ⟨j + 1, hlt, by go_num, H2.out.below HBw3.out, K2.out.trans (KT.of_below HBw3.out K2.out.size)⟩
      case measure => simp [intOf]; omega
    · have hj2 : j = 256 := by omega
      have HJ := hid hj2
      have hji : (j : Int) = 256 := by omega
      have hji2 : ¬ (j : Int) < 256 := by omega
      clear hj2 hlt hj
      go_wp2_with fail
      clear hji hji2
      refine (say_full w.heap.size b (tf j 0) none 0 0 wr HA.out (by omega) (by rw [tf_l, HJ.out]; decide)).mono ?_
      rintro e w4 ⟨rfl, hb4⟩
      have HB4 := hid hb4
      clear hb4
      go_wp2_with (first | (refine pk_fresh rfl (.tmp 6) (.tmp 29) rfl w4 _ _ _ _ _ _ _ rfl rfl (by simp [Value.oneCell']) ?_; intro w5 hgw5 hbw5; have HBw5 := hid hbw5; clear hgw5 hbw5) | fail)
      have H5 := hid ((HA.out.below HB4.out).below HBw5.out)
      have K5 := hid ((HK.out.trans (KT.of_below HB4.out hsr)).trans (KT.of_below HBw5.out (Nat.le_trans hsr HB4.out.size)))
      refine (open_any w.heap.size b (tf j 0) w5 H5.out).mono ?_
      rintro e w6 ⟨rfl, rfl⟩
      rw [show ((tf j 0).l.length : Int) = 256 by rw [tf_l, HJ.out]; rfl]
      have HNI := HNN.out
      go_wp2_with fail
      clear HNI
      try rw [EK.out]
      try rw [EK2.out]
      rw [HJ.out] at H5
      refine (hear_any w.heap.size b (tf 256 0) (kf k) none 0 w5 H5.out K5.out.size (Far.nil _ _) (by show 0 ≤ 1000000; omega) (by show 0 < 1000000; omega)).mono ?_
      rintro e w7 ⟨x1, c1, x2, c2, rfl, -, -, h7, k7⟩
      rw [tf_hear 256 k HK2.out] at h7
      have H7 := hid h7
      have K7 := hid (K5.out.trans k7.kt)
      clear h7 k7
      go_wp2_with fail
      by_cases hk0 : k = 0
      · refine (say_full w.heap.size b (tf 256 k) none 0 0 w7 H7.out (by omega) (by rw [tf_l, hk0]; decide)).mono ?_
        rintro e wz ⟨rfl, hbz⟩
        have KZ := hid (K7.out.trans (KT.of_below hbz K7.out.size))
        have HKZ := hid hk0
        have hkz : ¬ (0 : Int) < (k : Int) := by omega
        clear hbz hk0
        go_wp2_with (first | (refine pk_fresh rfl (.tmp 9) (.tmp 48) rfl wz _ _ _ _ _ _ _ rfl rfl (by simp [Value.oneCell']) ?_; intro w8 hgw8 hbw8; have HBw8 := hid hbw8; clear hgw8 hbw8) | (at_make; go_must (refine mkfull rfl (.const (.int .i64 2048)) (.const (.int .i64 2048)) rfl w8.heap.size _ _ _ _ 2048 rfl rfl rfl rfl (by omega) (Nat.le_refl _) ?_); intro wm hom hbm; have HBM := hid hbm; clear hom hbm) | fail)
        have HK8 := hid (KT.below (ts := talkTs) (base := w.heap.size) (KZ.out.trans (KT.of_below HBw8.out KZ.out.size)))
        refine (say_long w.heap.size b (tf 256 k) _ 2048 _ wm (by omega)).mono ?_
        rintro e w9 ⟨rfl, hb9⟩
        generalize Value.slice (some ⟨w8.heap.size, 0, none⟩) 2048 2048 = V
        have HB9 := hid hb9
        clear hb9
        have hkz3 := hkz
        clear hkz
        generalize (k : Int) = zz at hkz3 ⊢
        go_wp2_with (first | (refine pk_fresh rfl (.tmp 11) (.tmp 54) rfl w9 _ _ _ _ _ _ _ rfl rfl (by simp [Value.oneCell']) ?_; intro w10 hgw10 hbw10; have HBw10 := hid hbw10; clear hgw10 hbw10) | fail)
        go_ret
        refine ⟨?_, ?_⟩
        · first | rfl | (rw [show decide (0 < zz) = false from decide_eq_false (by omega)]; rfl)
        · exact (((HK8.out.trans (HBM.out.mono HK8.out.size)).trans (HB9.out.mono (Nat.le_trans HK8.out.size HBM.out.size)))).trans (HBw10.out.mono (Nat.le_trans HK8.out.size (Nat.le_trans HBM.out.size HB9.out.size)))
      · refine (say_yes w.heap.size b (tf 256 k) none 0 [] w7 H7.out K7.out.size (Far.nil _ _) (by simp) (by rw [tf_l]; omega) (by rw [tf_all]; omega)).mono ?_
        rintro e wz ⟨xa, xc, rfl, -, hz2, kz2⟩
        have KZ := hid (K7.out.trans kz2.kt)
        have hkz : (0 : Int) < (k : Int) := by omega
        clear hz2 kz2 hk0
        go_wp2_with (first | (refine pk_fresh rfl (.tmp 9) (.tmp 48) rfl wz _ _ _ _ _ _ _ rfl rfl (by simp [Value.oneCell']) ?_; intro w8 hgw8 hbw8; have HBw8 := hid hbw8; clear hgw8 hbw8) | (at_make; go_must (refine mkfull rfl (.const (.int .i64 2048)) (.const (.int .i64 2048)) rfl w8.heap.size _ _ _ _ 2048 rfl rfl rfl rfl (by omega) (Nat.le_refl _) ?_); intro wm hom hbm; have HBM := hid hbm; clear hom hbm) | fail)
        have HK8 := hid (KT.below (ts := talkTs) (base := w.heap.size) (KZ.out.trans (KT.of_below HBw8.out KZ.out.size)))
        refine (say_long w.heap.size b (tf 256 k) _ 2048 _ wm (by omega)).mono ?_
        rintro e w9 ⟨rfl, hb9⟩
        generalize Value.slice (some ⟨w8.heap.size, 0, none⟩) 2048 2048 = V
        have HB9 := hid hb9
        clear hb9
        have hkz3 := hkz
        clear hkz
        generalize (k : Int) = zz at hkz3 ⊢
        go_wp2_with (first | (refine pk_fresh rfl (.tmp 11) (.tmp 54) rfl w9 _ _ _ _ _ _ _ rfl rfl (by simp [Value.oneCell']) ?_; intro w10 hgw10 hbw10; have HBw10 := hid hbw10; clear hgw10 hbw10) | fail)
        go_ret
        refine ⟨?_, ?_⟩
        · first | rfl | (rw [show decide (0 < zz) = false from decide_eq_false (by omega)]; rfl)
        · exact (((HK8.out.trans (HBM.out.mono HK8.out.size)).trans (HB9.out.mono (Nat.le_trans HK8.out.size HBM.out.size)))).trans (HBw10.out.mono (Nat.le_trans HK8.out.size (Nat.le_trans HBM.out.size HB9.out.size)))

/-! ### THE ROW's STEP -/
set_option maxRecDepth 100000 in
theorem lifted (os : Os) (started : os.Started) (H : Type) (enc : TypeId × Value → H) :
    ReturnsInHanded {} Try.checked os 6 .any (Rows.talkFullSpec.pre6 enc Try.prog Try.f6 Rows.talkFullRow.domain false) (Rows.talkFullSpec.post enc Try.prog Try.f6 false true false false) := by
  refine returnsInHanded_of_change (C := Try.checked) own started (by kernel_rfl) Try.func6
    (ChangeSpec.witness6 (enc := enc) (C := Try.checked) false ⟨#[], #[.int .u16 0], []⟩ 8 (by kernel_rfl) (by kernel_rfl) (by kernel_rfl) (by kernel_rfl)) ?_
  intro W base args ds gs before hval0 hW hcnd _
  have hval : ∀ (j : Nat) t v, Try.f6.params[j]? = some t → args[j]? = some v → Value.okWide Try.prog W .any base t v := hval0
  have hW' := hW
  obtain ⟨p, q, hA0, hV, rfl, hfz, hnd⟩ := hW
  have hA : DataW.TrodAll enc Try.prog W 0 (fun _ => true) true Try.f6.params.toList args.toList ds p := hA0
  rw [Try.params6] at hA hval
  obtain ⟨v0, vs0, d0, ds0, p0, q0, hargs, rfl, rfl, h0, r0⟩ := trodAll_cons hA
  obtain ⟨rfl, rfl, rfl⟩ := trodAll_nil r0
  obtain rfl : args = #[v0] := by cases args; simp_all
  obtain ⟨rfl, rfl⟩ := trodVars_none hV
  have k0 := h0
  have lt0 : ∀ x ∈ p0, x.block < W.heap.size := by obtain ⟨m, hm⟩ := k0; exact DataW.trod_lt m _ _ _ hm
  obtain ⟨a0, rfl, rfl, rfl, w0⟩ := open_int Try.underlying66 (hval 0 66 v0 rfl rfl) h0
  clear hA0 hval0
  refine (walk a0 W w0).mono fun e W' ⟨he, bel⟩ => ?_
  subst he
  exact ⟨_, rfl, _, _, _, [], _, [], hW', trodAll_mk1 (shut_bool Try.underlying4 _), (trodAll_cons_mk (Below.trod laidOut (by kernel_rfl) (of_decide_eq_true (by kernel_rfl)) k0 bel lt0) trodAll_mk0), rfl, bel.frame _, fun h => by cases h⟩

theorem over : Rows.talkFullRow.holds Try.pinned (OpenSpec.ofChange Rows.talkFullSpec) :=
  OpenClaim.holds_of_wide 6 Try.f6 rfl rfl rfl rfl rfl rfl rfl ⟨rfl, rfl, rfl, rfl, rfl⟩ rfl rfl rfl rfl rfl (by kernel_rfl) Try.func6 (by kernel_rfl)
    (of_decide_eq_true (by kernel_rfl)) (by unfold Func.isWrapper; first | (rw [if_pos (by decide +kernel)]; kernel_rfl) | (rw [if_neg (by decide +kernel)]; exact ⟨rfl, rfl⟩))
    (fun os started H enc _ => lifted os started H enc)

/-- THE STATEMENT -/
theorem talkFull_holds : Rows.TalkFullSaid := over
#print axioms talkFull_holds
end Go.Proofs.Ytjpojlkdogaalaa.talkFull
