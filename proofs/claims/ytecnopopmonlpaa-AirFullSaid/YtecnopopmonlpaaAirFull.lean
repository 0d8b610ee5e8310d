/-
  So many datagrams fly and no more, and a number that isn't given is spent by nobody, at every two bytes; no condition.
  (The frame behind the walk is the guide's shell, at these parameters.)
-/
import Derived.Test.YtecnopopmonlpaaRows
import Derived.WalkKit
import Derived.Test.YtecnopopmonlpaaAwake9
import Derived.ProofKit
import Derived.Deep.Cut
import Derived.Deep.CutRange
import Derived.Deep.CutBlock
import Derived.Deep.Grids
import Derived.OpenShut
import Derived.ShutString
import Derived.ChangeOld
import Derived.Below
namespace Go.Proofs.Ytecnopopmonlpaa.airFull
open Go.ChangeShapes Go.WideShapes Go.ChangeAt Go.RowKit
open Go.ChangeMaps (open_string shut_string)
set_option linter.unusedVariables false

theorem own : ownKnob Try.prog.godebug = none := by kernel_rfl
theorem laidOut : laidOutB Try.prog = true := by kernel_rfl

/-- Behind j of them, all alike. -/
def fls (k j : Nat) : Ar := ⟨k, j, (List.range j).map fun i => ⟨i + 1, 0, []⟩⟩

theorem fls_len (k j : Nat) : (fls k j).l.length = j := by simp [fls]

theorem fls_fly (k j : Nat) : (fls k j).fly 0 [] = fls k (j + 1) := by simp [fls, Ar.fly, List.range_succ]

theorem fls_first (k j : Nat) (h : 0 < j) : (fls k j).l[0]? = some ⟨1, 0, []⟩ := by
  simp [fls, List.getElem?_range, h]

set_option maxRecDepth 100000 in
set_option maxHeartbeats 4000000 in
theorem walk (a0 : Int) (a1 : Int) (w : World) (w0 : (Lit.int .u8 a0).wf = true) (w1 : (Lit.int .u8 a1).wf = true) :
    Calls Try.prog 5 #[.int .u8 a0, .int .u8 a1] w fun e w' => e = .returned (.bool true) ∧ Below w.heap.size w w' := by
  obtain ⟨n, rfl⟩ := Int.eq_ofNat_of_zero_le (show 0 ≤ a0 by have := bounds_u8 w0; omega)
  obtain ⟨o, rfl⟩ := Int.eq_ofNat_of_zero_le (show 0 ≤ a1 by have := bounds_u8 w1; omega)
  have hn : n < 256 := by have := bounds_u8 w0; omega
  have ho : o < 256 := by have := bounds_u8 w1; omega
  clear w0 w1
  obtain ⟨k, hk⟩ : ∃ k, k = 1 + n % 60 := ⟨_, rfl⟩
  obtain ⟨q, hq⟩ : ∃ q, q = 1 + o % 4 := ⟨_, rfl⟩
  have hk1 : 1 ≤ k := by omega
  have hk2 : k ≤ 60 := by omega
  have hq2 : q ≤ 4 := by omega
  have ek : (1 : Int) + (n : Int) % 60 = (k : Int) := by omega
  have eq : (1 : Int) + (o : Int) % 4 = (q : Int) := by omega
  have hn2 : (n : Int) < 256 := by omega
  have ho2 : (o : Int) < 256 := by omega
  clear hk hq hn ho
  go_enter Try.func5, Try.ntmps5
  go_wp2_with fail
  refine (awake9_any w).mono ?_
  rintro e wa ⟨rfl, hba⟩
  have HBA := hid hba
  have hsa := hba.size
  clear hba
  go_wp2_with fail
  have EK := hid ek
  have EQ := hid eq
  clear ek eq
  refine (airnew_yes k wa w.heap.size hsa hk1 (by omega)).mono ?_
  rintro e w1 ⟨rfl, h1, hb1⟩
  have H1 := hid (show AirAt w1 w.heap.size wa.heap.size (fls k 0) from h1)
  have hs1 := hb1.size
  have K1 := hid ((KT.of_below (ts := airTs) HBA.out (Nat.le_refl _)).trans (KT.of_below hb1 hsa))
  obtain ⟨b, hb⟩ : ∃ b, b = wa.heap.size := ⟨_, rfl⟩
  rw [← hb] at H1
  rw [← hb]
  clear h1 hb1 hb
  go_wp2_with fail
  go_loopw [31] (fun i wr => ∃ j : Nat, j ≤ k ∧ i = .int .i64 j ∧ AirAt wr w.heap.size b (fls k j) ∧ KT airTs w.heap.size w wr) (fun i _ => k - (intOf i).toNat)
  case atStart => exact ⟨0, Nat.zero_le _, rfl, H1.out, K1.out⟩
  case round =>
    obtain ⟨j, hj, rfl, hA, hK⟩ := hrel
    have HA := hid hA
    have HK := hid hK
    have hsr := hK.size
    clear hA hK
    by_cases hlt : j < k
    · go_wp2_with fail
      refine (fly_yes w.heap.size b (fls k j) 0 none 0 [] wr HA.out hsr (Rd.nil _) (by rw [fls_len]; exact hlt) (by simp only [fls]; omega) (by simp)).mono ?_
      rintro e w2 ⟨rfl, h2, k2⟩
      rw [show (((fls k j).last : Nat) : Int) + 1 = (j : Int) + 1 from rfl]
      rw [fls_fly] at h2
      have H2 := hid h2
      have K2 := hid (HK.out.trans k2)
      clear h2 k2
      go_wp2_with fail
      go_roundw
      case rel => exact ⟨j + 1, hlt, by go_num, H2.out, K2.out⟩
      case measure => simp [intOf]; omega
    · obtain rfl : j = k := by omega
      have eq := EQ.out
      go_wp2_with fail
      clear eq
      go_loopw [53] (fun i wr => ∃ m : Nat, m ≤ q ∧ i = .int .u8 m ∧ AirAt wr w.heap.size b (fls j j) ∧ KT airTs w.heap.size w wr) (fun i _ => q - (intOf i).toNat)
      case atStart => exact ⟨0, Nat.zero_le _, rfl, HA.out, HK.out⟩
      case round =>
        obtain ⟨m, hm, rfl, hA2, hK2⟩ := hrel
        have HA2 := hid hA2
        have HK2 := hid hK2
        have hsr2 := hK2.size
        clear hA2 hK2
        by_cases hml : m < q
        · have hm4 : (m : Int) < 4 := by omega
          go_wp2_with fail
          refine (fly_full w.heap.size b (fls j j) 0 (.slice none 0 0) wr HA2.out (by rw [fls_len]; exact Nat.le_refl _)).mono ?_
          rintro e w3 ⟨rfl, b3⟩
          have H3 := hid (HA2.out.below b3)
          have hs3 := b3.size
          have K3 := hid (HK2.out.trans (KT.of_below b3 hsr2))
          clear b3
          go_wp2_with fail
          refine (echo_full w.heap.size b 0 (fls j j) ⟨1, 0, []⟩ w3 H3.out (fls_first j j hk1) (by rw [fls_len]; exact Nat.le_refl _)).mono ?_
          rintro e w4 ⟨rfl, b4⟩
          have H4 := hid (H3.out.below b4)
          have K4 := hid (K3.out.trans (KT.of_below b4 (by omega)))
          clear b4
          go_wp2_with fail
          go_roundw
          case rel => exact ⟨m + 1, hml, by go_num, H4.out, K4.out⟩
          case measure => simp [intOf]; omega
        · obtain rfl : m = q := by omega
          go_wp2_with fail
          refine (lose_yes w.heap.size b 0 (fls j j) ⟨1, 0, []⟩ _ HA2.out hsr2 (fls_first j j hk1)).mono ?_
          rintro e w3 ⟨rfl, h3, k3⟩
          have H3 := hid h3
          have K3 := hid (HK2.out.trans k3)
          have hs3 := k3.size
          clear h3 k3
          go_wp2_with fail
          refine (fly_yes w.heap.size b ((fls j j).fin 0) 0 none 0 [] w3 H3.out (by omega) (Rd.nil _) (by simp [Ar.fin, fls]; omega) (by simp only [fls, Ar.fin]; omega) (by simp)).mono ?_
          rintro e w4 ⟨rfl, h4, k4⟩
          rw [show (((fls j j).fin 0).last : Int) + 1 = (j : Int) + 1 from rfl]
          have K4 := hid (K3.out.trans k4)
          clear h4 k4
          go_wp2_with fail
          go_ret
          exact ⟨rfl, K4.out.below⟩

/-! ### THE ROW's STEP -/
set_option maxRecDepth 100000 in
theorem lifted (os : Os) (started : os.Started) (H : Type) (enc : TypeId × Value → H) :
    ReturnsInHanded {} Try.checked os 5 .any (Rows.airFullSpec.pre6 enc Try.prog Try.f5 Rows.airFullRow.domain false) (Rows.airFullSpec.post enc Try.prog Try.f5 false true false false) := by
  refine returnsInHanded_of_change (C := Try.checked) own started (by kernel_rfl) Try.func5
    (ChangeSpec.witness6 (enc := enc) (C := Try.checked) false ⟨#[], #[.int .u8 0, .int .u8 0], []⟩ 8 (by kernel_rfl) (by kernel_rfl) (by kernel_rfl) (by kernel_rfl)) ?_
  intro W base args ds gs before hval0 hW hcnd _
  have hval : ∀ (j : Nat) t v, Try.f5.params[j]? = some t → args[j]? = some v → Value.okWide Try.prog W .any base t v := hval0
  have hW' := hW
  obtain ⟨p, q, hA0, hV, rfl, hfz, hnd⟩ := hW
  have hA : DataW.TrodAll enc Try.prog W 0 (fun _ => true) true Try.f5.params.toList args.toList ds p := hA0
  rw [Try.params5] at hA hval
  obtain ⟨v0, vs0, d0, ds0, p0, q0, hargs, rfl, rfl, h0, r0⟩ := trodAll_cons hA
  obtain ⟨v1, vs1, d1, ds1, p1, q1, rfl, rfl, rfl, h1, r1⟩ := trodAll_cons r0
  obtain ⟨rfl, rfl, rfl⟩ := trodAll_nil r1
  obtain rfl : args = #[v0, v1] := by cases args; simp_all
  obtain ⟨rfl, rfl⟩ := trodVars_none hV
  have k0 := h0
  have lt0 : ∀ x ∈ p0, x.block < W.heap.size := by obtain ⟨m, hm⟩ := k0; exact DataW.trod_lt m _ _ _ hm
  have k1 := h1
  have lt1 : ∀ x ∈ p1, x.block < W.heap.size := by obtain ⟨m, hm⟩ := k1; exact DataW.trod_lt m _ _ _ hm
  obtain ⟨a0, rfl, rfl, rfl, w0⟩ := open_int Try.underlying5 (hval 0 5 v0 rfl rfl) h0
  obtain ⟨a1, rfl, rfl, rfl, w1⟩ := open_int Try.underlying5 (hval 1 5 v1 rfl rfl) h1
  clear hA0 hval0
  refine (walk a0 a1 W w0 w1).mono fun e W' ⟨he, bel⟩ => ?_
  subst he
  exact ⟨_, rfl, _, _, _, [], _, [], hW', trodAll_mk1 (shut_bool Try.underlying4 _), (trodAll_cons_mk (Below.trod laidOut (by kernel_rfl) (of_decide_eq_true (by kernel_rfl)) k0 bel lt0) (trodAll_cons_mk (Below.trod laidOut (by kernel_rfl) (of_decide_eq_true (by kernel_rfl)) k1 bel lt1) trodAll_mk0)), rfl, bel.frame _, fun h => by cases h⟩

theorem over : Rows.airFullRow.holds Try.pinned (OpenSpec.ofChange Rows.airFullSpec) :=
  OpenClaim.holds_of_wide 5 Try.f5 rfl rfl rfl rfl rfl rfl rfl ⟨rfl, rfl, rfl, rfl, rfl⟩ rfl rfl rfl rfl rfl (by kernel_rfl) Try.func5 (by kernel_rfl)
    (of_decide_eq_true (by kernel_rfl)) (by unfold Func.isWrapper; first | (rw [if_pos (by decide +kernel)]; kernel_rfl) | (rw [if_neg (by decide +kernel)]; exact ⟨rfl, rfl⟩))
    (fun os started H enc _ => lifted os started H enc)

/-- THE STATEMENT -/
theorem airFull_holds : Rows.AirFullSaid := over
#print axioms airFull_holds
end Go.Proofs.Ytecnopopmonlpaa.airFull
