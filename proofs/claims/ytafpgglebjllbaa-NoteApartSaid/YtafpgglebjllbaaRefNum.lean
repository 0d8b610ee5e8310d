/-
  The document's answer for a number and a text: their contracts.
-/
import Derived.Test.YtafpgglebjllbaaKit
import Derived.Test.YtafpgglebjllbaaInkM
namespace Go.Proofs.Ytafpgglebjllbaa
open Go.RowKit

set_option maxRecDepth 100000 in
set_option maxHeartbeats 1000000 in
theorem refnum_any (n : Nat) (z : Int) (hz : z = (n : Int)) (hn : n < 18446744073709551616) (w : World) :
    Calls Try.prog 65 #[.int .u64 z] w fun e w' => ∃ v', e = .returned v' ∧ Own w' w.heap.size v' (Ink.num n) ∧ Below w.heap.size w w' := by
  subst hz
  have HN := hid hn
  have hk0 := hid (show n < 18446744073709551616 ∧ [] ++ Ink.num n = Ink.num n from ⟨hn, rfl⟩)
  clear hn
  go_enter Try.func65, Try.ntmps65
  go_wp2_with fail
  go_loopw [0, 3] (fun u o wr => ∃ (m : Nat) (pre : List UInt8) (ad : Option Addr) (N cp : Nat), u = .int .u64 m ∧ o = .slice ad N cp ∧ Hid (m < 18446744073709551616 ∧ pre ++ Ink.num m = Ink.num n) ∧ Own wr w.heap.size (.slice ad N cp) pre ∧ Below w.heap.size w wr) (fun u _ _ => (intOf u).toNat)
  case atStart =>
    exact ⟨n, [], none, 0, 0, rfl, rfl, hk0, Own.nil _ _, Below.refl _ _⟩
  case round =>
    obtain ⟨m, pre, ad, N, cp, rfl, rfl, HM, hown, hb⟩ := hrel
    have hlen : pre.length ≤ 9 := by
      have h1 := congrArg List.length HM.out.2
      rw [List.length_append] at h1
      have := (Ink.num_length n).1
      have := (Ink.num_length m).2
      omega
    have hN := hid (show N = pre.length from hown.caps.1)
    by_cases hm : 128 ≤ m
    · have hwr : IntKind.u64.wrap ((m : Int) / 128) = (m : Int) / 128 := by have := HM.out.1; rw [IntKind.wrap_u64]; omega
      go_wp2_with (at_builtin; go_must (refine appk rfl (.tmp 6) (.tmp 11) rfl w.heap.size (.slice ad N cp) _ pre [UInt8.ofNat (m % 128 + 128)] (pre ++ [UInt8.ofNat (m % 128 + 128)]) (N + 1) rfl rfl (hown.alloc _) (Rd.one _ _ _ (by rw [UInt8.toNat_ofNat']; omega)) (by rw [hN.out]; rfl) rfl (by simp; omega) (by have := hb.size; simp; omega) ?_); intro ad4 cp4 w4 hown4 hgrow4)
      go_roundw
      case rel =>
        refine ⟨m / 128, pre ++ [UInt8.ofNat (m % 128 + 128)], ad4, N + 1, cp4, by go_num, rfl, ⟨by have := HM.out.1; omega, ?_⟩, hown4, (hown.alloc _).grown (hb.alloc hb.size _) hgrow4 (Nat.le_refl _) (by have := hb.size; simp; omega)⟩
        rw [← HM.out.2, Ink.num_step m hm HM.out.1, List.append_assoc]; rfl
      case measure => simp [intOf]; omega
    · have hm' : m < 128 := by omega
      go_wp2_with (at_builtin; go_must (refine appk rfl (.tmp 15) (.tmp 18) rfl w.heap.size (.slice ad N cp) _ pre [UInt8.ofNat m] (Ink.num n) (N + 1) rfl rfl (hown.alloc _) (Rd.one _ _ _ (by rw [UInt8.toNat_ofNat']; omega)) (by rw [hN.out]; rfl) (by rw [← Ink.num_small m hm', HM.out.2]) (by simp; omega) (by have := hb.size; simp; omega) ?_); intro ad4 cp4 w4 hown4 hgrow4)
      go_ret
      exact ⟨_, rfl, hown4, (hown.alloc _).grown (hb.alloc hb.size _) hgrow4 (Nat.le_refl _) (by have := hb.size; simp; omega)⟩

set_option maxRecDepth 100000 in
set_option maxHeartbeats 1000000 in
theorem reftext_any (t : Value) (m : List UInt8) (w : World) (ht : Rd w t m) (hm : m.length ≤ 1000000) :
    Calls Try.prog 36 #[t] w fun e w' => ∃ v', e = .returned v' ∧ Own w' w.heap.size v' (Ink.text m) ∧ Below w.heap.size w w' := by
  obtain ⟨n, hn⟩ : ∃ n, n = m.length := ⟨_, rfl⟩
  obtain ⟨ta, tc, rfl⟩ : ∃ ta tc, t = .slice ta n tc := by
    obtain ⟨ta, tc, e, _⟩ := ht
    exact ⟨ta, tc, by rw [hn, e]⟩
  rw [← hn] at hm
  have HN := hid hn
  clear hn
  go_enter Try.func36, Try.ntmps36
  go_wp2_with fail
  refine (refnum_any n _ (by first | rfl | omega) (by omega) w).mono ?_
  rintro e w1 ⟨v1, rfl, hown, hb⟩
  have ht1 := ht.below hb
  obtain ⟨ad, cp, rfl⟩ : ∃ ad cp, v1 = .slice ad (Ink.num n).length cp := by
    obtain ⟨ad, cp, e, _⟩ := hown.rd
    exact ⟨ad, cp, e⟩
  have hnl := (Ink.num_length n).1
  go_wp2_with (at_builtin; go_must (refine appk rfl (.tmp 6) (.tmp 7) rfl w.heap.size (.slice ad (Ink.num n).length cp) _ (Ink.num n) m (Ink.text m) ((Ink.num n).length + n) rfl rfl hown ht1 (by rw [HN.out]) (by unfold Ink.text; rw [HN.out]) (by rw [← HN.out]; omega) hb.size ?_); intro ad4 cp4 w4 hown4 hgrow4)
  go_ret
  exact ⟨_, rfl, hown4, hown.grown hb hgrow4 (Nat.le_refl _) hb.size⟩

end Go.Proofs.Ytafpgglebjllbaa
