/-
  quadrilleref02.Tie: its contract.
-/
import Derived.Test.YtafpgglebjllbaaRefSum
import Derived.Test.YtafpgglebjllbaaKnotM
namespace Go.Proofs.Ytafpgglebjllbaa
open Go.RowKit

theorem b0 (S : BitVec 32) : (S.toNat : Int) % 256 = ((Knot.byteOf S 0).toNat : Int) := by
  have := Knot.byteOf_val S 0
  simpa using this
theorem b1 (S : BitVec 32) : (S.toNat : Int) / 256 % 256 = ((Knot.byteOf S 1).toNat : Int) := Knot.byteOf_val S 1
theorem b2 (S : BitVec 32) : (S.toNat : Int) / 65536 % 256 = ((Knot.byteOf S 2).toNat : Int) := Knot.byteOf_val S 2
theorem b3 (S : BitVec 32) : (S.toNat : Int) / 16777216 = ((Knot.byteOf S 3).toNat : Int) := by
  have h : (S.toNat : Int) / 16777216 % 256 = ((Knot.byteOf S 3).toNat : Int) := Knot.byteOf_val S 3
  have := S.isLt
  rw [← h]
  omega

set_option maxHeartbeats 400000 in
theorem reftie_long (v : Value) (l : List UInt8) (w : World) (h : Rd w v l) (hl : 2048 < l.length) :
    Calls Try.prog 25 #[v] w fun e w' => e = .returned (.tuple #[.slice none 0 0, .int .i64 3]) ∧ w = w' := by
  have hl' : 2048 < (l.length : Int) := by omega
  obtain ⟨a, cap, rfl, _⟩ := h
  go_enter Try.func25, Try.ntmps25
  go_wp2
  go_ret2
  exact ⟨rfl, rfl⟩

set_option maxHeartbeats 400000 in
theorem reftie_any (v : Value) (l : List UInt8) (w : World) (h : Rd w v l) (hl : l.length ≤ 2048) :
    Calls Try.prog 25 #[v] w fun e w' => ∃ kv, e = .returned (.tuple #[kv, .int .i64 0]) ∧ Own w' w.heap.size kv (Knot.knot l) ∧ Below w.heap.size w w' := by
  have h0 := h
  obtain ⟨a, cap, rfl, _⟩ := h
  obtain ⟨n, hn⟩ : ∃ n, n = l.length := ⟨_, rfl⟩
  rw [← hn] at hl h0 ⊢
  have HN := hid hn
  clear hn
  have hH : (Knot.head n).length = 2 := rfl
  have HH := hid hH
  clear hH
  have hbody : Knot.head n ++ l = Knot.body l := by unfold Knot.body; rw [HN.out]
  have HB := hid hbody
  clear hbody
  have hbl : (Knot.body l).length = n + 2 := by rw [Knot.body_length, ← HN.out]
  have HBL := hid hbl
  clear hbl
  have hO1 : Own (w.alloc (.cells #[.int .u8 ((n : Int) % 256), .int .u8 ((n : Int) / 256)] 5)) w.heap.size (.slice (some ⟨w.heap.size, 0, none⟩) 2 2) (Knot.head n) :=
    Own.lit w w.heap.size _ _ 2 rfl (by unfold Knot.head bv; simp; omega) (by rw [HH.out]; unfold maxLen; omega) (Nat.le_refl _)
  have HO1 := hid hO1
  clear hO1
  go_enter Try.func25, Try.ntmps25
  go_wp2_with (first
    | (at_builtin; refine appk rfl (.tmp 17) (.tmp 18) rfl w.heap.size (.slice (some ⟨w.heap.size, 0, none⟩) 2 2) _ (Knot.head n) l (Knot.body l) (n + 2) rfl rfl HO1.out (h0.alloc _) (by rw [HH.out, HN.out, Nat.add_comm]) HB.out (by rw [HH.out, ← HN.out]; omega) (by simp) ?_; intro ad2 cp2 w2 hown2 hgrow2; have hb2 : Below w.heap.size w w2 := HO1.out.grown ((Below.refl _ _).alloc (Nat.le_refl _) _) hgrow2 (Nat.le_refl _) (by simp); clear hgrow2)
    | (go_at_call 57; go_must (refine (refsum_any _ (Knot.body l) _ hown2.rd (by rw [HBL.out]; omega)).mono ?_); rintro e w3 ⟨rfl, hb3⟩)
    | (at_builtin; go_must (refine appk rfl (.tmp 22) (.tmp 34) rfl w.heap.size (.slice ad2 (n + 2) cp2) _ (Knot.body l) (Knot.le32 (Crc.sum (Knot.body l))) (Knot.knot l) (n + 6) rfl rfl ((hown2.below hb3).alloc _) (Rd.lit _ _ (0, 0) _ 4 rfl (by unfold Knot.le32 bv; simp [b0, b1, b2, b3]) (by unfold Knot.le32 maxLen; simp)) (by rw [HBL.out]; rfl) rfl (by rw [HBL.out]; unfold Knot.le32; simp; omega) (by have := hb2.size; have := hb3.size; simp; omega) ?_); intro ad4 cp4 w4 hown4 hgrow4))
  go_ret2
  refine ⟨_, rfl, hown4, ?_⟩
  exact ((hown2.below hb3).alloc _).grown ((hb2.trans (hb3.mono hb2.size)).alloc (by have := hb2.size; have := hb3.size; omega) _) hgrow4 (Nat.le_refl _) (by have := hb2.size; have := hb3.size; simp; omega)

end Go.Proofs.Ytafpgglebjllbaa
