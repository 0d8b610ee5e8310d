/-
  Down in the heap.
-/
import Derived.Test.YtcgfechodbmimaaPrV
namespace Go.Proofs.Ytcgfechodbmimaa
open Go.RowKit Go.ChangeMaps
set_option linter.unusedVariables false
set_option linter.unusedSimpArgs false

theorem wrap_mid {a : Int} (h1 : -9223372036854775808 ≤ a) (h2 : a ≤ 9223372036854775807) : IntKind.i64.wrap a = a := by
  rw [IntKind.wrap_i64]; omega

set_option maxRecDepth 100000 in
set_option maxHeartbeats 8000000 in
theorem down_any (w : World) (lo b m : Nat) (v : Value) (q : List It) (i0 n : Nat) (h : RwAt w lo b v m q) (hn : n ≤ q.length) (hi : i0 ≤ n) (hd : DownInv q n i0) :
    Calls Try.prog 29 #[.iface 56 (.pointer (some ⟨b, 0, none⟩)), .int .i64 i0, .int .i64 n] w fun e w' => ∃ r q', e = .returned (.bool r) ∧ RwAt w' lo b v m q' ∧ q'.Perm q ∧ HeapN q' n ∧ (∀ p, n ≤ p → it q' p = it q p) ∧ Keeps (Hb b m v) w w' := by
  have H := hid h
  have HDD := hid hd
  have hl := h.len
  have hmLess : ∀ W : World, (method 220 56 (.pointer (some ⟨b, 0, none⟩)) "Less").run Try.prog W = .ok (73, .pointer (some ⟨b, 0, none⟩)) W := fun _ => by kernel_rfl
  have hmSwap : ∀ W : World, (method 220 56 (.pointer (some ⟨b, 0, none⟩)) "Swap").run Try.prog W = .ok (76, .pointer (some ⟨b, 0, none⟩)) W := fun _ => by kernel_rfl
  clear h hd
  go_enter Try.func29, Try.ntmps29
  go_wp2_with fail
  go_loopw [7] (fun i wr => ∃ (k : Nat) (q' : List It), i = .int .i64 k ∧ k ≤ n ∧ RwAt wr lo b v m q' ∧ q'.Perm q ∧ DownInv q' n k ∧ (∀ p, n ≤ p → it q' p = it q p) ∧ Keeps (Hb b m v) w wr) (fun i _ => n - (intOf i).toNat)
  case atStart => exact ⟨i0, q, rfl, hi, H.out, List.Perm.refl _, HDD.out, fun _ _ => rfl, keeps_refl _⟩
  case round =>
    obtain ⟨k, q', rfl, hk, hR, hp, hD, hT, hK⟩ := hrel
    have hpl := hp.length_eq
    have HR := hid hR
    have HP := hid hp
    have HD := hid hD
    have HT := hid hT
    have HK := hid hK
    have hl' := hR.len
    clear hR hp hD hT hK
    obtain ⟨j1, hj1⟩ : ∃ j, j = 2 * k + 1 := ⟨_, rfl⟩
    obtain ⟨j2, hj2⟩ : ∃ j, j = j1 + 1 := ⟨_, rfl⟩
    have e0 : IntKind.i64.wrap (2 * (k : Int)) = 2 * (k : Int) := wrap_mid (by omega) (by omega)
    have e1 : IntKind.i64.wrap (2 * (k : Int) + 1) = (j1 : Int) := by rw [wrap_mid (by omega) (by omega)]; omega
    have e2 : IntKind.i64.wrap ((j1 : Int) + 1) = (j2 : Int) := by rw [wrap_mid (by omega) (by omega)]; omega
    have z1 : decide ((j1 : Int) < 0) = false := decide_eq_false (by omega)
    have HJ := hid (And.intro hj1 hj2)
    by_cases h1 : n ≤ j1
    · have HE := hid (show HeapN q' n from down_end HD.out fun c c0 cn cp => by rcases (par_kids c0).1 cp with h | h <;> omega)
      have d1 : decide ((j1 : Int) ≥ (n : Int)) = true := decide_eq_true (by omega)
      have d2 : decide ((n : Int) ≤ (j1 : Int)) = true := decide_eq_true (by omega)
      have d3 : decide (n ≤ j1) = true := decide_eq_true h1
      clear hj1 hj2 h1 hn hpl hl hl'
      go_wp2_with fail
      go_ret
      exact ⟨_, q', rfl, HR.out, HP.out, HE.out, HT.out, HK.out⟩
    · have d1 : decide ((j1 : Int) ≥ (n : Int)) = false := decide_eq_false (by omega)
      have d2 : decide ((n : Int) ≤ (j1 : Int)) = false := decide_eq_false (by omega)
      have d3 : decide (n ≤ j1) = false := decide_eq_false h1
      by_cases h2 : j2 < n
      · have d4 : decide ((j2 : Int) < (n : Int)) = true := decide_eq_true (by omega)
        have d5 : decide (j2 < n) = true := decide_eq_true h2
        by_cases hc : Bef (it q' j2) (it q' j1)
        · have hpar : par j2 = k := by unfold par; omega
          have HL1 := hid (fun W hW => by have h1 := qless_any W lo b m v q' j2 j1 hW (by omega) (by omega); rw [show decide (Bef (it q' j2) (it q' j1)) = true from decide_eq_true hc] at h1; exact h1)
          have HLE := hid (show ∀ c, 0 < c → c < n → par c = k → ¬ Bef (it q' c) (it q' j2) from fun c c0 cn cp => by
            rcases (par_kids c0).1 cp with h | h
            · rw [show c = j1 by omega]; exact bef_asym hc
            · rw [show c = j2 by omega]; exact bef_irr _)
          by_cases hb : Bef (it q' j2) (it q' k)
          · have HL2 := hid (fun W hW => by have h1 := qless_any W lo b m v q' j2 k hW (by omega) (by omega); rw [show decide (Bef (it q' j2) (it q' k)) = true from decide_eq_true hb] at h1; exact h1)
            have HS := hid (fun W hW => qswap_any W lo b m v q' k j2 hW (by omega) (by omega))
            have HD2 := hid (show DownInv (swp q' k j2) n j2 from down_step HD.out (by omega) (by omega) (by omega) hpar HLE.out hb)
            have HP2 := hid ((swp_perm (q := q') (i := k) (j := j2) (by omega) (by omega)).trans HP.out)
            have HT2 := hid (show ∀ p, n ≤ p → it (swp q' k j2) p = it q p from fun p hp => by rw [it_swp (by omega) (by omega), if_neg (by omega), if_neg (by omega)]; exact HT.out p hp)
            have hjk : k < j2 := by omega
            clear hb hpar hj1 hj2 hn hpl hl hl'
            go_wp2_with (first
              | (go_at_call 73; (with_reducible refine (HL1.out _ HR.out).mono ?_); rintro e w1 ⟨rfl, hb1⟩; have HRw1 := hid (HR.out.below hb1); have HKw1 := hid (keeps_below HK.out hb1); clear hb1)
              | (go_at_call 73; (with_reducible refine (HL2.out _ HRw1.out).mono ?_); rintro e w2 ⟨rfl, hb1⟩; have HRw2 := hid (HRw1.out.below hb1); have HKw2 := hid (keeps_below HKw1.out hb1); clear hb1)
              | (go_at_call 76; (with_reducible refine (HS.out _ HRw2.out).mono ?_); rintro e w3 ⟨rfl, hr3, hk3⟩; have HR3 := hid hr3; have HK3 := hid (HKw2.out.trans hk3); clear hr3 hk3)
              | fail)
            go_roundw
            case rel => exact ⟨j2, _, rfl, by omega, HR3.out, HP2.out, HD2.out, HT2.out, HK3.out⟩
            case measure => simp [intOf]; omega
          · have HL2 := hid (fun W hW => by have h1 := qless_any W lo b m v q' j2 k hW (by omega) (by omega); rw [show decide (Bef (it q' j2) (it q' k)) = false from decide_eq_false hb] at h1; exact h1)
            have HE := hid (show HeapN q' n from down_end HD.out fun c c0 cn cp => bef_neg (HLE.out c c0 cn cp) hb)
            clear hb hpar hj1 hj2 hn hpl hl hl'
            go_wp2_with (first
              | (go_at_call 73; (with_reducible refine (HL1.out _ HR.out).mono ?_); rintro e w1 ⟨rfl, hb1⟩; have HRw1 := hid (HR.out.below hb1); have HKw1 := hid (keeps_below HK.out hb1); clear hb1)
              | (go_at_call 73; (with_reducible refine (HL2.out _ HRw1.out).mono ?_); rintro e w2 ⟨rfl, hb1⟩; have HRw2 := hid (HRw1.out.below hb1); have HKw2 := hid (keeps_below HKw1.out hb1); clear hb1)
              | fail)
            go_ret
            exact ⟨_, q', rfl, HRw2.out, HP.out, HE.out, HT.out, HKw2.out⟩
        · have hpar : par j1 = k := by unfold par; omega
          have HL1 := hid (fun W hW => by have h1 := qless_any W lo b m v q' j2 j1 hW (by omega) (by omega); rw [show decide (Bef (it q' j2) (it q' j1)) = false from decide_eq_false hc] at h1; exact h1)
          have HLE := hid (show ∀ c, 0 < c → c < n → par c = k → ¬ Bef (it q' c) (it q' j1) from fun c c0 cn cp => by
            rcases (par_kids c0).1 cp with h | h
            · rw [show c = j1 by omega]; exact bef_irr _
            · rw [show c = j2 by omega]; exact hc)
          by_cases hb : Bef (it q' j1) (it q' k)
          · have HL2 := hid (fun W hW => by have h1 := qless_any W lo b m v q' j1 k hW (by omega) (by omega); rw [show decide (Bef (it q' j1) (it q' k)) = true from decide_eq_true hb] at h1; exact h1)
            have HS := hid (fun W hW => qswap_any W lo b m v q' k j1 hW (by omega) (by omega))
            have HD2 := hid (show DownInv (swp q' k j1) n j1 from down_step HD.out (by omega) (by omega) (by omega) hpar HLE.out hb)
            have HP2 := hid ((swp_perm (q := q') (i := k) (j := j1) (by omega) (by omega)).trans HP.out)
            have HT2 := hid (show ∀ p, n ≤ p → it (swp q' k j1) p = it q p from fun p hp => by rw [it_swp (by omega) (by omega), if_neg (by omega), if_neg (by omega)]; exact HT.out p hp)
            have hjk : k < j1 := by omega
            clear hb hpar hj1 hj2 hn hpl hl hl'
            go_wp2_with (first
              | (go_at_call 73; (with_reducible refine (HL1.out _ HR.out).mono ?_); rintro e w1 ⟨rfl, hb1⟩; have HRw1 := hid (HR.out.below hb1); have HKw1 := hid (keeps_below HK.out hb1); clear hb1)
              | (go_at_call 73; (with_reducible refine (HL2.out _ HRw1.out).mono ?_); rintro e w2 ⟨rfl, hb1⟩; have HRw2 := hid (HRw1.out.below hb1); have HKw2 := hid (keeps_below HKw1.out hb1); clear hb1)
              | (go_at_call 76; (with_reducible refine (HS.out _ HRw2.out).mono ?_); rintro e w3 ⟨rfl, hr3, hk3⟩; have HR3 := hid hr3; have HK3 := hid (HKw2.out.trans hk3); clear hr3 hk3)
              | fail)
            go_roundw
            case rel => exact ⟨j1, _, rfl, by omega, HR3.out, HP2.out, HD2.out, HT2.out, HK3.out⟩
            case measure => simp [intOf]; omega
          · have HL2 := hid (fun W hW => by have h1 := qless_any W lo b m v q' j1 k hW (by omega) (by omega); rw [show decide (Bef (it q' j1) (it q' k)) = false from decide_eq_false hb] at h1; exact h1)
            have HE := hid (show HeapN q' n from down_end HD.out fun c c0 cn cp => bef_neg (HLE.out c c0 cn cp) hb)
            clear hb hpar hj1 hj2 hn hpl hl hl'
            go_wp2_with (first
              | (go_at_call 73; (with_reducible refine (HL1.out _ HR.out).mono ?_); rintro e w1 ⟨rfl, hb1⟩; have HRw1 := hid (HR.out.below hb1); have HKw1 := hid (keeps_below HK.out hb1); clear hb1)
              | (go_at_call 73; (with_reducible refine (HL2.out _ HRw1.out).mono ?_); rintro e w2 ⟨rfl, hb1⟩; have HRw2 := hid (HRw1.out.below hb1); have HKw2 := hid (keeps_below HKw1.out hb1); clear hb1)
              | fail)
            go_ret
            exact ⟨_, q', rfl, HRw2.out, HP.out, HE.out, HT.out, HKw2.out⟩
      · have d4 : decide ((j2 : Int) < (n : Int)) = false := decide_eq_false (by omega)
        have d5 : decide (j2 < n) = false := decide_eq_false h2
        have hpar : par j1 = k := by unfold par; omega
        have HLE := hid (show ∀ c, 0 < c → c < n → par c = k → ¬ Bef (it q' c) (it q' j1) from fun c c0 cn cp => by
          rcases (par_kids c0).1 cp with h | h
          · rw [show c = j1 by omega]; exact bef_irr _
          · omega)
        by_cases hb : Bef (it q' j1) (it q' k)
        · have HL2 := hid (fun W hW => by have h1 := qless_any W lo b m v q' j1 k hW (by omega) (by omega); rw [show decide (Bef (it q' j1) (it q' k)) = true from decide_eq_true hb] at h1; exact h1)
          have HS := hid (fun W hW => qswap_any W lo b m v q' k j1 hW (by omega) (by omega))
          have HD2 := hid (show DownInv (swp q' k j1) n j1 from down_step HD.out (by omega) (by omega) (by omega) hpar HLE.out hb)
          have HP2 := hid ((swp_perm (q := q') (i := k) (j := j1) (by omega) (by omega)).trans HP.out)
          have HT2 := hid (show ∀ p, n ≤ p → it (swp q' k j1) p = it q p from fun p hp => by rw [it_swp (by omega) (by omega), if_neg (by omega), if_neg (by omega)]; exact HT.out p hp)
          have hjk : k < j1 := by omega
          clear hb hpar hj1 hj2 hn hpl hl hl'
          go_wp2_with (first
            | (go_at_call 73; (with_reducible refine (HL2.out _ HR.out).mono ?_); rintro e w2 ⟨rfl, hb1⟩; have HRw2 := hid (HR.out.below hb1); have HKw2 := hid (keeps_below HK.out hb1); clear hb1)
            | (go_at_call 76; (with_reducible refine (HS.out _ HRw2.out).mono ?_); rintro e w3 ⟨rfl, hr3, hk3⟩; have HR3 := hid hr3; have HK3 := hid (HKw2.out.trans hk3); clear hr3 hk3)
            | fail)
          go_roundw
          case rel => exact ⟨j1, _, rfl, by omega, HR3.out, HP2.out, HD2.out, HT2.out, HK3.out⟩
          case measure => simp [intOf]; omega
        · have HL2 := hid (fun W hW => by have h1 := qless_any W lo b m v q' j1 k hW (by omega) (by omega); rw [show decide (Bef (it q' j1) (it q' k)) = false from decide_eq_false hb] at h1; exact h1)
          have HE := hid (show HeapN q' n from down_end HD.out fun c c0 cn cp => bef_neg (HLE.out c c0 cn cp) hb)
          clear hb hpar hj1 hj2 hn hpl hl hl'
          go_wp2_with (first
            | (go_at_call 73; (with_reducible refine (HL2.out _ HR.out).mono ?_); rintro e w2 ⟨rfl, hb1⟩; have HRw2 := hid (HR.out.below hb1); have HKw2 := hid (keeps_below HK.out hb1); clear hb1)
            | fail)
          go_ret
          exact ⟨_, q', rfl, HRw2.out, HP.out, HE.out, HT.out, HKw2.out⟩

end Go.Proofs.Ytcgfechodbmimaa
