/-
  knot.Tie: its contract.
-/
import Derived.Test.YtahiaifdfgkemaaUntie
namespace Go.Proofs.Ytahiaifdfgkemaa
open Go.RowKit

set_option maxHeartbeats 400000 in
theorem tie_long (v : Value) (l : List UInt8) (w : World) (h : Rd w v l) (hl : 2048 < l.length) :
    Calls Try.prog 44 #[v] w fun e w' => e = .returned (.tuple #[.slice none 0 0, .int .i64 3]) ∧ w = w' := by
  have hl' : 2048 < (l.length : Int) := by omega
  obtain ⟨a, cap, rfl, _⟩ := h
  go_enter Try.func44, Try.ntmps44
  go_wp2
  go_ret2
  exact ⟨rfl, rfl⟩

set_option maxHeartbeats 400000 in
theorem tie_any (v : Value) (l : List UInt8) (w : World) (h : Rd w v l) (hl : l.length ≤ 2048) :
    Calls Try.prog 44 #[v] w fun e w' => ∃ kv, e = .returned (.tuple #[kv, .int .i64 0]) ∧ Own w' w.heap.size kv (Knot.knot l) ∧ Below w.heap.size w w' := by
  have h0 := h
  obtain ⟨a, cap, rfl, _⟩ := h
  obtain ⟨n, hn⟩ : ∃ n, n = l.length := ⟨_, rfl⟩
  rw [← hn] at hl h0 ⊢
  have HN := hid hn
  clear hn
  go_enter Try.func44, Try.ntmps44
  have hH : (Knot.head n).length = 2 := rfl
  have HH := hid hH
  clear hH
  have hbody : Knot.head n ++ l = Knot.body l := by unfold Knot.body; rw [HN.out]
  have HB := hid hbody
  clear hbody
  go_wp2_with (first
    | (at_make; go_must (refine mk rfl (.const (.int .i64 0)) (.tmp 13) rfl w.heap.size _ _ _ (n + 6) rfl rfl (by omega) (by omega) (Nat.le_refl _) ?_); intro w1 hown1 hb1)
    | (at_builtin; refine appk rfl (.tmp 15) (.tmp 23) rfl w.heap.size (.slice (some ⟨w.heap.size, 0, none⟩) 0 (n + 6)) _ [] (Knot.head n) (Knot.head n) 2 rfl rfl (hown1.alloc _) (Rd.two _ _ _ (UInt8.ofNat n) (UInt8.ofNat (n / 256)) (by simp) (by simp; omega)) rfl rfl (by simp [Knot.head]) (by have := hb1.size; simp; omega) ?_; intro ad2 cp2 w2 hown2 hgrow2; have hb2 : Below w.heap.size w w2 := (hown1.alloc _).grown (hb1.alloc hb1.size _) hgrow2 (Nat.le_refl _) (by have := hb1.size; simp; omega); clear hgrow2 hown1 hb1)
    | (at_builtin; go_must (refine appk rfl (.tmp 25) (.tmp 26) rfl w.heap.size (.slice ad2 2 cp2) _ (Knot.head n) l (Knot.body l) (n + 2) rfl rfl hown2 (h0.below hb2) (by rw [HH.out, HN.out, Nat.add_comm]) HB.out (by rw [HH.out, ← HN.out]; omega) hb2.size ?_); intro ad3 cp3 w3 hown3 hgrow3; have hb3 : Below w.heap.size w w3 := hown2.grown hb2 hgrow3 (Nat.le_refl _) hb2.size; clear hgrow3 hown2 hb2)
    | (go_at_call 46; go_must (refine (sum_any _ (Knot.body l) _ hown3.rd).mono ?_); rintro e w4 ⟨rfl, rfl⟩))
  obtain ⟨S, hS⟩ : ∃ S, S = Crc.sum (Knot.body l) := ⟨_, rfl⟩
  rw [← hS]
  have HS := hid hS
  have hbl : (Knot.body l).length = n + 2 := by rw [Knot.body_length, ← HN.out]
  have HBL := hid hbl
  clear hS hbl
  go_loopw [4, 30] (fun v i wr => ∃ (j : Nat) (ad : Option Addr) (cp : Nat), j ≤ 4 ∧ i = .int .i64 j ∧ v = .slice ad (n + 2 + j) cp ∧ Own wr w.heap.size (.slice ad (n + 2 + j) cp) (Knot.body l ++ (Knot.le32 S).take j) ∧ Below w.heap.size w wr) (fun _ i _ => 4 - (intOf i).toNat)
  case atStart => exact ⟨0, _, _, by omega, rfl, rfl, by simpa using hown3, hb3⟩
  case round =>
    obtain ⟨j, ad, cp, hj, rfl, rfl, hown, hb⟩ := hrel
    clear hown3 hb3
    by_cases hlt : j < 4
    · have hlen : (Knot.body l ++ (Knot.le32 S).take j).length = n + 2 + j := by rw [List.length_append, HBL.out, List.length_take]; unfold Knot.le32; simp; omega
      have HLEN := hid hlen
      clear hlen
      have HV := hid (Knot.byteOf_val S j)
      have HL := hid (Knot.le32_step (Knot.body l) S j hlt)
      go_wp2_with (at_builtin; go_must (refine appk rfl (.tmp 33) (.tmp 39) rfl w.heap.size (.slice ad (n + 2 + j) cp) _ (Knot.body l ++ (Knot.le32 S).take j) [Knot.byteOf S j] (Knot.body l ++ (Knot.le32 S).take (j + 1)) (n + 2 + (j + 1)) rfl rfl (hown.alloc _) (Rd.one _ _ _ HV.out) (by rw [HLEN.out]; rfl) HL.out (by rw [HLEN.out]; simp; omega) (by have := hb.size; simp; omega) ?_); intro ad4 cp4 w4 hown4 hgrow4)
      go_roundw
      case rel => exact ⟨j + 1, ad4, cp4, by omega, by go_num, rfl, hown4, (hown.alloc _).grown (hb.alloc hb.size _) hgrow4 (Nat.le_refl _) (by have := hb.size; simp; omega)⟩
      case measure => simp [intOf]; omega
    · obtain rfl : j = 4 := by omega
      go_wp2
      go_ret2
      refine ⟨_, rfl, ?_, hb⟩
      rw [HS.out] at hown
      exact hown

end Go.Proofs.Ytahiaifdfgkemaa
