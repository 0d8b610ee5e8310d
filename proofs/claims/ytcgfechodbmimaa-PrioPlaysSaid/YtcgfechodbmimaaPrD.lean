/-
  Package heap's down and up from anywhere: Remove and Fix. (genprd.py writes it out of PrV and PrW.)
-/
import Derived.Test.YtcgfechodbmimaaPrX
namespace Go.Proofs.Ytcgfechodbmimaa
open Go.RowKit Go.ChangeMaps
set_option linter.unusedVariables false
set_option linter.unusedSimpArgs false

/-- A heap but for the item at i, which may be anything. -/
def AnyInv (q : List It) (n i : Nat) : Prop := (∀ k, 0 < k → k < n → k ≠ i → par k ≠ i → ¬ Bef (it q k) (it q (par k))) ∧ (∀ k, 0 < k → k < n → par k = i → 0 < i → ¬ Bef (it q k) (it q (par i)))

theorem any_step {q : List It} {n i j : Nat} (h : AnyInv q n i) (hn : n ≤ q.length) (hj : j < n) (h0 : 0 < j) (hp : par j = i) (hl : ∀ k, 0 < k → k < n → par k = i → ¬ Bef (it q k) (it q j)) (hb : Bef (it q j) (it q i)) : DownInv (swp q i j) n j := by
  have hpj := par_lt h0
  have hs := it_swp (q := q) (i := i) (j := j) (by omega) (by omega)
  refine ⟨fun k k0 kn kp => ?_, fun k k0 kn kp _ => ?_⟩
  · have hpk := par_lt k0
    rw [hs, hs]
    by_cases e1 : k = j
    · subst e1
      rw [if_pos rfl, hp, if_neg (by omega), if_pos rfl]
      exact bef_asym hb
    · rw [if_neg e1, if_neg kp]
      by_cases e2 : par k = i
      · rw [if_pos e2, if_neg (by omega)]
        exact hl k k0 kn e2
      · rw [if_neg e2]
        by_cases e3 : k = i
        · subst e3
          rw [if_pos rfl]
          exact h.2 j h0 hj hp k0
        · rw [if_neg e3]
          exact h.1 k k0 kn e3 e2
  · have hpk := par_lt k0
    rw [hs, hs, hp, if_neg (show k ≠ j by omega), if_neg (show k ≠ i by omega), if_neg (show i ≠ j by omega), if_pos rfl]
    have := h.1 k k0 kn (by omega) (by omega)
    rw [kp] at this
    exact this

theorem DownInv.any {q : List It} {n i : Nat} (h : DownInv q n i) : AnyInv q n i := ⟨fun k a b _ d => h.1 k a b d, h.2⟩

theorem any_up {q : List It} {n i : Nat} (h : AnyInv q n i) (hb : ∀ k, 0 < k → k < n → par k = i → ¬ Bef (it q k) (it q i)) : UpInv q n i :=
  ⟨fun k a b c => by
    by_cases e : par k = i
    · rw [e]; exact hb k a b e
    · exact h.1 k a b c e, h.2⟩

/-- A heap of which one item was put anew. -/
theorem any_set {q q' : List It} {n i : Nat} (h : HeapN q n) (hq : ∀ k, k < n → k ≠ i → it q' k = it q k) : AnyInv q' n i := by
  refine ⟨fun k a b c d => ?_, fun k a b c d => ?_⟩
  · have hp := par_lt a
    rw [hq k b c, hq (par k) (by omega) d]
    exact h k a b
  · have hp := par_lt a
    have hpi := par_lt d
    have hki : k ≠ i := by omega
    rw [hq k b hki, hq (par i) (by omega) (by omega)]
    have h1 := h k a b
    rw [c] at h1
    exact bef_neg h1 (h i d (by omega))

def FixInv (q q' : List It) (n i0 k : Nat) : Prop := AnyInv q' n k ∧ ((k = i0 ∧ q' = q) ∨ (i0 < k ∧ DownInv q' n k))
def FixOut (q q' : List It) (n i0 : Nat) (r : Bool) : Prop := (r = true ∧ HeapN q' n) ∨ (r = false ∧ q' = q ∧ UpInv q n i0)

theorem FixInv.step {q q' : List It} {n i0 k j : Nat} (h : FixInv q q' n i0 k) (hn : n ≤ q'.length) (hj : j < n) (h0 : 0 < j) (hp : par j = k) (hl : ∀ c, 0 < c → c < n → par c = k → ¬ Bef (it q' c) (it q' j)) (hb : Bef (it q' j) (it q' k)) : FixInv q (swp q' k j) n i0 j := by
  have hs := any_step h.1 hn hj h0 hp hl hb
  have hpj := par_lt h0
  refine ⟨hs.any, .inr ⟨?_, hs⟩⟩
  rcases h.2 with ⟨e, _⟩ | ⟨e, _⟩ <;> omega

theorem FixInv.fin {q q' : List It} {n i0 k : Nat} (h : FixInv q q' n i0 k) (_ : True) (hb : ∀ c, 0 < c → c < n → par c = k → ¬ Bef (it q' c) (it q' k)) : FixOut q q' n i0 (decide (i0 < k)) := by
  rcases h.2 with ⟨e1, e2⟩ | ⟨e1, e2⟩
  · subst e1 e2
    exact .inr ⟨decide_eq_false (Nat.lt_irrefl _), rfl, any_up h.1 hb⟩
  · exact .inl ⟨decide_eq_true e1, down_end e2 hb⟩

set_option maxRecDepth 100000 in
set_option maxHeartbeats 4000000 in
theorem up_n (w : World) (lo b m : Nat) (v : Value) (q : List It) (j n : Nat) (h : RwAt w lo b v m q) (hn : n ≤ q.length) (hj : j < n) (hu : UpInv q n j) :
    Calls Try.prog 28 #[.iface 56 (.pointer (some ⟨b, 0, none⟩)), .int .i64 j] w fun e w' => e = .returned (.tuple #[]) ∧ ∃ q', RwAt w' lo b v m q' ∧ q'.Perm q ∧ HeapN q' n ∧ (∀ p, n ≤ p → it q' p = it q p) ∧ Keeps (Hb b m v) w w' := by
  have H := hid h
  have HU := hid hu
  have hl := h.len
  have hmLess : ∀ W : World, (method 220 56 (.pointer (some ⟨b, 0, none⟩)) "Less").run Try.prog W = .ok (73, .pointer (some ⟨b, 0, none⟩)) W := fun _ => by kernel_rfl
  have hmSwap : ∀ W : World, (method 220 56 (.pointer (some ⟨b, 0, none⟩)) "Swap").run Try.prog W = .ok (76, .pointer (some ⟨b, 0, none⟩)) W := fun _ => by kernel_rfl
  clear h hu
  go_enter Try.func28, Try.ntmps28
  go_wp2_with fail
  go_loopw [1] (fun i wr => ∃ (k : Nat) (q' : List It), i = .int .i64 k ∧ k < n ∧ RwAt wr lo b v m q' ∧ q'.Perm q ∧ UpInv q' n k ∧ (∀ p, n ≤ p → it q' p = it q p) ∧ Keeps (Hb b m v) w wr) (fun i _ => (intOf i).toNat)
  case atStart => exact ⟨j, q, rfl, hj, H.out, List.Perm.refl _, HU.out, fun _ _ => rfl, keeps_refl _⟩
  case round =>
    obtain ⟨k, q', rfl, hkn, hR, hp, hU, hT, hK⟩ := hrel
    have hk : k < q'.length := by have := hp.length_eq; omega
    have HT := hid hT
    have HKN := hid hkn
    have HNQ := hid (show n ≤ q'.length by have := hp.length_eq; omega)
    have HR := hid hR
    have HP := hid hp
    have HUU := hid hU
    have HK := hid hK
    have hl' := hR.len
    clear hR hp hU hK hT hkn hn hj
    by_cases h0 : k = 0
    · have HE := hid (show HeapN q' n from up_end HUU.out (fun h => by omega))
      subst h0
      go_wp2_with fail
      go_end0
      exact ⟨rfl, q', HR.out, HP.out, HE.out, HT.out, HK.out⟩
    · have hk0 : 0 < k := by omega
      have hpk := par_lt hk0
      have hpq : ((k : Int) - 1) / 2 = ((par k : Nat) : Int) := by unfold par; omega
      by_cases hb : Bef (it q' k) (it q' (par k))
      · have HL := hid (fun W hW => by have h1 := qless_any W lo b m v q' k (par k) hW hk (by omega); rw [show decide (Bef (it q' k) (it q' (par k))) = true from decide_eq_true hb] at h1; exact h1)
        have HS := hid (fun W hW => qswap_any W lo b m v q' (par k) k hW (by omega) hk)
        have HU2 := hid (show UpInv (swp q' (par k) k) n (par k) from up_step HUU.out HNQ.out HKN.out hk0 hb)
        have HT2 := hid (show ∀ p, n ≤ p → it (swp q' (par k) k) p = it q p from fun p hp => by have := HKN.out; rw [it_swp (by omega) hk, if_neg (by omega), if_neg (by omega)]; exact HT.out p hp)
        have HP2 := hid ((swp_perm (q := q') (i := par k) (j := k) (by omega) hk).trans HP.out)
        have HKL := hid (show par k < n by have := HKN.out; omega)
        generalize par k = p at *
        have d1 : ((p : Int) == (k : Int)) = false := by simp; omega
        clear hb h0
        go_wp2_with (first
          | (go_at_call 73; refine (HL.out _ HR.out).mono ?_; rintro e w1 ⟨rfl, hb1⟩; have HR1 := hid (HR.out.below hb1); have HK1 := hid (keeps_below HK.out hb1); clear hb1)
          | (go_at_call 76; refine (HS.out _ HR1.out).mono ?_; rintro e w2 ⟨rfl, hr2, hk2⟩; have HR2 := hid hr2; have HK2 := hid (HK1.out.trans hk2); clear hr2 hk2)
          | fail)
        go_roundw
        case rel => exact ⟨p, _, rfl, HKL.out, HR2.out, HP2.out, HU2.out, HT2.out, HK2.out⟩
        case measure => simp [intOf]; omega
      · have HL := hid (fun W hW => by have h1 := qless_any W lo b m v q' k (par k) hW hk (by omega); rw [show decide (Bef (it q' k) (it q' (par k))) = false from decide_eq_false hb] at h1; exact h1)
        have HE := hid (show HeapN q' n from up_end HUU.out (fun _ => hb))
        generalize par k = p at *
        have d1 : ((p : Int) == (k : Int)) = false := by simp; omega
        clear hb h0
        go_wp2_with (first
          | (go_at_call 73; refine (HL.out _ HR.out).mono ?_; rintro e w1 ⟨rfl, hb1⟩; have HR1 := hid (HR.out.below hb1); have HK1 := hid (keeps_below HK.out hb1); clear hb1)
          | fail)
        go_end0
        exact ⟨rfl, q', HR1.out, HP.out, HE.out, HT.out, HK1.out⟩

set_option maxRecDepth 100000 in
set_option maxHeartbeats 8000000 in
theorem down_fix (w : World) (lo b m : Nat) (v : Value) (q : List It) (i0 n : Nat) (h : RwAt w lo b v m q) (hn : n ≤ q.length) (hi : i0 ≤ n) (hd : AnyInv q n i0) :
    Calls Try.prog 29 #[.iface 56 (.pointer (some ⟨b, 0, none⟩)), .int .i64 i0, .int .i64 n] w fun e w' => ∃ r q', e = .returned (.bool r) ∧ RwAt w' lo b v m q' ∧ q'.Perm q ∧ FixOut q q' n i0 r ∧ (∀ p, n ≤ p → it q' p = it q p) ∧ Keeps (Hb b m v) w w' := by
  have H := hid h
  have HDD := hid hd
  have hl := h.len
  have hmLess : ∀ W : World, (method 220 56 (.pointer (some ⟨b, 0, none⟩)) "Less").run Try.prog W = .ok (73, .pointer (some ⟨b, 0, none⟩)) W := fun _ => by kernel_rfl
  have hmSwap : ∀ W : World, (method 220 56 (.pointer (some ⟨b, 0, none⟩)) "Swap").run Try.prog W = .ok (76, .pointer (some ⟨b, 0, none⟩)) W := fun _ => by kernel_rfl
  clear h hd
  go_enter Try.func29, Try.ntmps29
  go_wp2_with fail
  go_loopw [7] (fun i wr => ∃ (k : Nat) (q' : List It), i = .int .i64 k ∧ k ≤ n ∧ RwAt wr lo b v m q' ∧ q'.Perm q ∧ FixInv q q' n i0 k ∧ (∀ p, n ≤ p → it q' p = it q p) ∧ Keeps (Hb b m v) w wr) (fun i _ => n - (intOf i).toNat)
  case atStart => exact ⟨i0, q, rfl, hi, H.out, List.Perm.refl _, ⟨HDD.out, .inl ⟨rfl, rfl⟩⟩, fun _ _ => rfl, keeps_refl _⟩
  case round =>
    obtain ⟨k, q', rfl, hk, hR, hp, hD, hT, hK⟩ := hrel
    have hpl := hp.length_eq
    have HR := hid hR
    have HP := hid hp
    have HD := hid hD
    have HT := hid hT
    have HK := hid hK
    have hl' := hR.len
    clear hR hp hD hT hK
    obtain ⟨j1, hj1⟩ : ∃ j, j = 2 * k + 1 := ⟨_, rfl⟩
    obtain ⟨j2, hj2⟩ : ∃ j, j = j1 + 1 := ⟨_, rfl⟩
    have e0 : IntKind.i64.wrap (2 * (k : Int)) = 2 * (k : Int) := wrap_mid (by omega) (by omega)
    have e1 : IntKind.i64.wrap (2 * (k : Int) + 1) = (j1 : Int) := by rw [wrap_mid (by omega) (by omega)]; omega
    have e2 : IntKind.i64.wrap ((j1 : Int) + 1) = (j2 : Int) := by rw [wrap_mid (by omega) (by omega)]; omega
    have v1 : decide ((i0 : Int) < (k : Int)) = decide (i0 < k) := decide_eq_decide.2 (by omega)
    have v2 : decide ((k : Int) > (i0 : Int)) = decide (i0 < k) := decide_eq_decide.2 (by omega)
    have z1 : decide ((j1 : Int) < 0) = false := decide_eq_false (by omega)
    have HJ := hid (And.intro hj1 hj2)
    by_cases h1 : n ≤ j1
    · have HE := hid (show FixOut q q' n i0 (decide (i0 < k)) from HD.out.fin trivial fun c c0 cn cp => by rcases (par_kids c0).1 cp with h | h <;> omega)
      have d1 : decide ((j1 : Int) ≥ (n : Int)) = true := decide_eq_true (by omega)
      have d2 : decide ((n : Int) ≤ (j1 : Int)) = true := decide_eq_true (by omega)
      have d3 : decide (n ≤ j1) = true := decide_eq_true h1
      clear hj1 hj2 h1 hn hpl hl hl'
      go_wp2_with fail
      go_ret
      exact ⟨_, q', rfl, HR.out, HP.out, HE.out, HT.out, HK.out⟩
    · have d1 : decide ((j1 : Int) ≥ (n : Int)) = false := decide_eq_false (by omega)
      have d2 : decide ((n : Int) ≤ (j1 : Int)) = false := decide_eq_false (by omega)
      have d3 : decide (n ≤ j1) = false := decide_eq_false h1
      by_cases h2 : j2 < n
      · have d4 : decide ((j2 : Int) < (n : Int)) = true := decide_eq_true (by omega)
        have d5 : decide (j2 < n) = true := decide_eq_true h2
        by_cases hc : Bef (it q' j2) (it q' j1)
        · have hpar : par j2 = k := by unfold par; omega
          have HL1 := hid (fun W hW => by have h1 := qless_any W lo b m v q' j2 j1 hW (by omega) (by omega); rw [show decide (Bef (it q' j2) (it q' j1)) = true from decide_eq_true hc] at h1; exact h1)
          have HLE := hid (show ∀ c, 0 < c → c < n → par c = k → ¬ Bef (it q' c) (it q' j2) from fun c c0 cn cp => by
            rcases (par_kids c0).1 cp with h | h
            · rw [show c = j1 by omega]; exact bef_asym hc
            · rw [show c = j2 by omega]; exact bef_irr _)
          by_cases hb : Bef (it q' j2) (it q' k)
          · have HL2 := hid (fun W hW => by have h1 := qless_any W lo b m v q' j2 k hW (by omega) (by omega); rw [show decide (Bef (it q' j2) (it q' k)) = true from decide_eq_true hb] at h1; exact h1)
            have HS := hid (fun W hW => qswap_any W lo b m v q' k j2 hW (by omega) (by omega))
            have HD2 := hid (show FixInv q (swp q' k j2) n i0 j2 from HD.out.step (by omega) (by omega) (by omega) hpar HLE.out hb)
            have HP2 := hid ((swp_perm (q := q') (i := k) (j := j2) (by omega) (by omega)).trans HP.out)
            have HT2 := hid (show ∀ p, n ≤ p → it (swp q' k j2) p = it q p from fun p hp => by rw [it_swp (by omega) (by omega), if_neg (by omega), if_neg (by omega)]; exact HT.out p hp)
            have hjk : k < j2 := by omega
            clear hb hpar hj1 hj2 hn hpl hl hl'
            go_wp2_with (first
              | (go_at_call 73; (with_reducible refine (HL1.out _ HR.out).mono ?_); rintro e w1 ⟨rfl, hb1⟩; have HRw1 := hid (HR.out.below hb1); have HKw1 := hid (keeps_below HK.out hb1); clear hb1)
              | (go_at_call 73; (with_reducible refine (HL2.out _ HRw1.out).mono ?_); rintro e w2 ⟨rfl, hb1⟩; have HRw2 := hid (HRw1.out.below hb1); have HKw2 := hid (keeps_below HKw1.out hb1); clear hb1)
              | (go_at_call 76; (with_reducible refine (HS.out _ HRw2.out).mono ?_); rintro e w3 ⟨rfl, hr3, hk3⟩; have HR3 := hid hr3; have HK3 := hid (HKw2.out.trans hk3); clear hr3 hk3)
              | fail)
            go_roundw
            case rel => exact ⟨j2, _, rfl, by omega, HR3.out, HP2.out, HD2.out, HT2.out, HK3.out⟩
            case measure => simp [intOf]; omega
          · have HL2 := hid (fun W hW => by have h1 := qless_any W lo b m v q' j2 k hW (by omega) (by omega); rw [show decide (Bef (it q' j2) (it q' k)) = false from decide_eq_false hb] at h1; exact h1)
            have HE := hid (show FixOut q q' n i0 (decide (i0 < k)) from HD.out.fin trivial fun c c0 cn cp => bef_neg (HLE.out c c0 cn cp) hb)
            clear hb hpar hj1 hj2 hn hpl hl hl'
            go_wp2_with (first
              | (go_at_call 73; (with_reducible refine (HL1.out _ HR.out).mono ?_); rintro e w1 ⟨rfl, hb1⟩; have HRw1 := hid (HR.out.below hb1); have HKw1 := hid (keeps_below HK.out hb1); clear hb1)
              | (go_at_call 73; (with_reducible refine (HL2.out _ HRw1.out).mono ?_); rintro e w2 ⟨rfl, hb1⟩; have HRw2 := hid (HRw1.out.below hb1); have HKw2 := hid (keeps_below HKw1.out hb1); clear hb1)
              | fail)
            go_ret
            exact ⟨_, q', rfl, HRw2.out, HP.out, HE.out, HT.out, HKw2.out⟩
        · have hpar : par j1 = k := by unfold par; omega
          have HL1 := hid (fun W hW => by have h1 := qless_any W lo b m v q' j2 j1 hW (by omega) (by omega); rw [show decide (Bef (it q' j2) (it q' j1)) = false from decide_eq_false hc] at h1; exact h1)
          have HLE := hid (show ∀ c, 0 < c → c < n → par c = k → ¬ Bef (it q' c) (it q' j1) from fun c c0 cn cp => by
            rcases (par_kids c0).1 cp with h | h
            · rw [show c = j1 by omega]; exact bef_irr _
            · rw [show c = j2 by omega]; exact hc)
          by_cases hb : Bef (it q' j1) (it q' k)
          · have HL2 := hid (fun W hW => by have h1 := qless_any W lo b m v q' j1 k hW (by omega) (by omega); rw [show decide (Bef (it q' j1) (it q' k)) = true from decide_eq_true hb] at h1; exact h1)
            have HS := hid (fun W hW => qswap_any W lo b m v q' k j1 hW (by omega) (by omega))
            have HD2 := hid (show FixInv q (swp q' k j1) n i0 j1 from HD.out.step (by omega) (by omega) (by omega) hpar HLE.out hb)
            have HP2 := hid ((swp_perm (q := q') (i := k) (j := j1) (by omega) (by omega)).trans HP.out)
            have HT2 := hid (show ∀ p, n ≤ p → it (swp q' k j1) p = it q p from fun p hp => by rw [it_swp (by omega) (by omega), if_neg (by omega), if_neg (by omega)]; exact HT.out p hp)
            have hjk : k < j1 := by omega
            clear hb hpar hj1 hj2 hn hpl hl hl'
            go_wp2_with (first
              | (go_at_call 73; (with_reducible refine (HL1.out _ HR.out).mono ?_); rintro e w1 ⟨rfl, hb1⟩; have HRw1 := hid (HR.out.below hb1); have HKw1 := hid (keeps_below HK.out hb1); clear hb1)
              | (go_at_call 73; (with_reducible refine (HL2.out _ HRw1.out).mono ?_); rintro e w2 ⟨rfl, hb1⟩; have HRw2 := hid (HRw1.out.below hb1); have HKw2 := hid (keeps_below HKw1.out hb1); clear hb1)
              | (go_at_call 76; (with_reducible refine (HS.out _ HRw2.out).mono ?_); rintro e w3 ⟨rfl, hr3, hk3⟩; have HR3 := hid hr3; have HK3 := hid (HKw2.out.trans hk3); clear hr3 hk3)
              | fail)
            go_roundw
            case rel => exact ⟨j1, _, rfl, by omega, HR3.out, HP2.out, HD2.out, HT2.out, HK3.out⟩
            case measure => simp [intOf]; omega
          · have HL2 := hid (fun W hW => by have h1 := qless_any W lo b m v q' j1 k hW (by omega) (by omega); rw [show decide (Bef (it q' j1) (it q' k)) = false from decide_eq_false hb] at h1; exact h1)
            have HE := hid (show FixOut q q' n i0 (decide (i0 < k)) from HD.out.fin trivial fun c c0 cn cp => bef_neg (HLE.out c c0 cn cp) hb)
            clear hb hpar hj1 hj2 hn hpl hl hl'
            go_wp2_with (first
              | (go_at_call 73; (with_reducible refine (HL1.out _ HR.out).mono ?_); rintro e w1 ⟨rfl, hb1⟩; have HRw1 := hid (HR.out.below hb1); have HKw1 := hid (keeps_below HK.out hb1); clear hb1)
              | (go_at_call 73; (with_reducible refine (HL2.out _ HRw1.out).mono ?_); rintro e w2 ⟨rfl, hb1⟩; have HRw2 := hid (HRw1.out.below hb1); have HKw2 := hid (keeps_below HKw1.out hb1); clear hb1)
              | fail)
            go_ret
            exact ⟨_, q', rfl, HRw2.out, HP.out, HE.out, HT.out, HKw2.out⟩
      · have d4 : decide ((j2 : Int) < (n : Int)) = false := decide_eq_false (by omega)
        have d5 : decide (j2 < n) = false := decide_eq_false h2
        have hpar : par j1 = k := by unfold par; omega
        have HLE := hid (show ∀ c, 0 < c → c < n → par c = k → ¬ Bef (it q' c) (it q' j1) from fun c c0 cn cp => by
          rcases (par_kids c0).1 cp with h | h
          · rw [show c = j1 by omega]; exact bef_irr _
          · omega)
        by_cases hb : Bef (it q' j1) (it q' k)
        · have HL2 := hid (fun W hW => by have h1 := qless_any W lo b m v q' j1 k hW (by omega) (by omega); rw [show decide (Bef (it q' j1) (it q' k)) = true from decide_eq_true hb] at h1; exact h1)
          have HS := hid (fun W hW => qswap_any W lo b m v q' k j1 hW (by omega) (by omega))
          have HD2 := hid (show FixInv q (swp q' k j1) n i0 j1 from HD.out.step (by omega) (by omega) (by omega) hpar HLE.out hb)
          have HP2 := hid ((swp_perm (q := q') (i := k) (j := j1) (by omega) (by omega)).trans HP.out)
          have HT2 := hid (show ∀ p, n ≤ p → it (swp q' k j1) p = it q p from fun p hp => by rw [it_swp (by omega) (by omega), if_neg (by omega), if_neg (by omega)]; exact HT.out p hp)
          have hjk : k < j1 := by omega
          clear hb hpar hj1 hj2 hn hpl hl hl'
          go_wp2_with (first
            | (go_at_call 73; (with_reducible refine (HL2.out _ HR.out).mono ?_); rintro e w2 ⟨rfl, hb1⟩; have HRw2 := hid (HR.out.below hb1); have HKw2 := hid (keeps_below HK.out hb1); clear hb1)
            | (go_at_call 76; (with_reducible refine (HS.out _ HRw2.out).mono ?_); rintro e w3 ⟨rfl, hr3, hk3⟩; have HR3 := hid hr3; have HK3 := hid (HKw2.out.trans hk3); clear hr3 hk3)
            | fail)
          go_roundw
          case rel => exact ⟨j1, _, rfl, by omega, HR3.out, HP2.out, HD2.out, HT2.out, HK3.out⟩
          case measure => simp [intOf]; omega
        · have HL2 := hid (fun W hW => by have h1 := qless_any W lo b m v q' j1 k hW (by omega) (by omega); rw [show decide (Bef (it q' j1) (it q' k)) = false from decide_eq_false hb] at h1; exact h1)
          have HE := hid (show FixOut q q' n i0 (decide (i0 < k)) from HD.out.fin trivial fun c c0 cn cp => bef_neg (HLE.out c c0 cn cp) hb)
          clear hb hpar hj1 hj2 hn hpl hl hl'
          go_wp2_with (first
            | (go_at_call 73; (with_reducible refine (HL2.out _ HR.out).mono ?_); rintro e w2 ⟨rfl, hb1⟩; have HRw2 := hid (HR.out.below hb1); have HKw2 := hid (keeps_below HK.out hb1); clear hb1)
            | fail)
          go_ret
          exact ⟨_, q', rfl, HRw2.out, HP.out, HE.out, HT.out, HKw2.out⟩

end Go.Proofs.Ytcgfechodbmimaa
