/-
  Up in the heap.
-/
import Derived.Test.YtcgfechodbmimaaPrU
namespace Go.Proofs.Ytcgfechodbmimaa
open Go.RowKit Go.ChangeMaps
set_option linter.unusedVariables false
set_option linter.unusedSimpArgs false

theorem keeps_below {S : Nat → Prop} {a w w' : World} (h : Keeps S a w) (hb : Below w.heap.size w w') : Keeps S a w' :=
  ⟨hb.os.trans h.os, hb.tape.trans h.tape, hb.output.trans h.output, Nat.le_trans h.size hb.size, fun k hk hS => (hb.block k (Nat.lt_of_lt_of_le hk h.size)).trans (h.block k hk hS)⟩
theorem keeps_refl {S : Nat → Prop} (w : World) : Keeps S w w := ⟨rfl, rfl, rfl, Nat.le_refl _, fun _ _ _ => rfl⟩

set_option maxRecDepth 100000 in
set_option maxHeartbeats 4000000 in
theorem up_any (w : World) (lo b m : Nat) (v : Value) (q : List It) (j : Nat) (h : RwAt w lo b v m q) (hj : j < q.length) (hu : UpInv q q.length j) :
    Calls Try.prog 28 #[.iface 56 (.pointer (some ⟨b, 0, none⟩)), .int .i64 j] w fun e w' => e = .returned (.tuple #[]) ∧ ∃ q', RwAt w' lo b v m q' ∧ q'.Perm q ∧ HeapN q' q'.length ∧ Keeps (Hb b m v) w w' := by
  have H := hid h
  have HU := hid hu
  have hl := h.len
  have hmLess : ∀ W : World, (method 220 56 (.pointer (some ⟨b, 0, none⟩)) "Less").run Try.prog W = .ok (73, .pointer (some ⟨b, 0, none⟩)) W := fun _ => by kernel_rfl
  have hmSwap : ∀ W : World, (method 220 56 (.pointer (some ⟨b, 0, none⟩)) "Swap").run Try.prog W = .ok (76, .pointer (some ⟨b, 0, none⟩)) W := fun _ => by kernel_rfl
  clear h hu
  go_enter Try.func28, Try.ntmps28
  go_wp2_with fail
  go_loopw [1] (fun i wr => ∃ (k : Nat) (q' : List It), i = .int .i64 k ∧ k < q'.length ∧ RwAt wr lo b v m q' ∧ q'.Perm q ∧ UpInv q' q'.length k ∧ Keeps (Hb b m v) w wr) (fun i _ => (intOf i).toNat)
  case atStart => exact ⟨j, q, rfl, hj, H.out, List.Perm.refl _, HU.out, keeps_refl _⟩
  case round =>
    obtain ⟨k, q', rfl, hk, hR, hp, hU, hK⟩ := hrel
    have HR := hid hR
    have HP := hid hp
    have HUU := hid hU
    have HK := hid hK
    have hl' := hR.len
    clear hR hp hU hK
    by_cases h0 : k = 0
    · have HE := hid (show HeapN q' q'.length from up_end HUU.out (fun h => by omega))
      subst h0
      go_wp2_with fail
      go_end0
      exact ⟨rfl, q', HR.out, HP.out, HE.out, HK.out⟩
    · have hk0 : 0 < k := by omega
      have hpk := par_lt hk0
      have hpq : ((k : Int) - 1) / 2 = ((par k : Nat) : Int) := by unfold par; omega
      by_cases hb : Bef (it q' k) (it q' (par k))
      · have HL := hid (fun W hW => by have h1 := qless_any W lo b m v q' k (par k) hW hk (by omega); rw [show decide (Bef (it q' k) (it q' (par k))) = true from decide_eq_true hb] at h1; exact h1)
        have HS := hid (fun W hW => qswap_any W lo b m v q' (par k) k hW (by omega) hk)
        have HU2 := hid (show UpInv (swp q' (par k) k) (swp q' (par k) k).length (par k) by rw [swp_len]; exact up_step HUU.out (Nat.le_refl _) hk hk0 hb)
        have HP2 := hid ((swp_perm (q := q') (i := par k) (j := k) (by omega) hk).trans HP.out)
        have HKL := hid (show par k < (swp q' (par k) k).length by rw [swp_len]; omega)
        generalize par k = p at *
        have d1 : ((p : Int) == (k : Int)) = false := by simp; omega
        clear hb h0
        go_wp2_with (first
          | (go_at_call 73; refine (HL.out _ HR.out).mono ?_; rintro e w1 ⟨rfl, hb1⟩; have HR1 := hid (HR.out.below hb1); have HK1 := hid (keeps_below HK.out hb1); clear hb1)
          | (go_at_call 76; refine (HS.out _ HR1.out).mono ?_; rintro e w2 ⟨rfl, hr2, hk2⟩; have HR2 := hid hr2; have HK2 := hid (HK1.out.trans hk2); clear hr2 hk2)
          | fail)
        go_roundw
        case rel => exact ⟨p, _, rfl, HKL.out, HR2.out, HP2.out, HU2.out, HK2.out⟩
        case measure => simp [intOf]; omega
      · have HL := hid (fun W hW => by have h1 := qless_any W lo b m v q' k (par k) hW hk (by omega); rw [show decide (Bef (it q' k) (it q' (par k))) = false from decide_eq_false hb] at h1; exact h1)
        have HE := hid (show HeapN q' q'.length from up_end HUU.out (fun _ => hb))
        generalize par k = p at *
        have d1 : ((p : Int) == (k : Int)) = false := by simp; omega
        clear hb h0
        go_wp2_with (first
          | (go_at_call 73; refine (HL.out _ HR.out).mono ?_; rintro e w1 ⟨rfl, hb1⟩; have HR1 := hid (HR.out.below hb1); have HK1 := hid (keeps_below HK.out hb1); clear hb1)
          | fail)
        go_end0
        exact ⟨rfl, q', HR1.out, HP.out, HE.out, HK1.out⟩

end Go.Proofs.Ytcgfechodbmimaa
