/-
  Contracts of shuffle: Unify.
-/
import Derived.Test.YtnffmijanikjgaaShfC
import Derived.Test.YtnffmijanikjgaaRowW
namespace Go.Proofs.Ytnffmijanikjgaa
open Go.RowKit Go.Shelf
set_option linter.unusedVariables false

/-- How far one has come: the rows ahead of t, and q rows into it. -/
def Mx.uAt (m : Mx) (t q : Nat) : Mx × List (Nat × Nat × Nat) := (List.range' (t + 1) q).foldl (uStep t) ((List.range t).foldl (uRow m.r) (m, []))

theorem uAt_zero (m : Mx) (t : Nat) : m.uAt t 0 = (List.range t).foldl (uRow m.r) (m, []) := rfl
theorem uAt_succ (m : Mx) (t q : Nat) : m.uAt t (q + 1) = uStep t (m.uAt t q) (t + 1 + q) := by
  unfold Mx.uAt
  rw [List.range'_1_concat, List.foldl_append]; rfl
theorem uAt_row (m : Mx) (t : Nat) (h : t < m.r) : m.uAt t (m.r - (t + 1)) = m.uAt (t + 1) 0 := by
  rw [uAt_zero, List.range_succ, List.foldl_append]; rfl
theorem uAt_last (m : Mx) : m.uAt m.r 0 = m.unify := rfl

theorem uAt_way {m : Mx} (hn : m.n ≤ 16) (ho : One m) (t q : Nat) (h : t + 1 + q ≤ m.r ∨ q = 0) : Way m (m.uAt t q) :=
  Way.uSteps hn ho _ (Way.uRows hn ho _ (Way.start ho)) fun f hf => by rw [List.mem_range'_1] at hf; omega

theorem uStep_len (t : Nat) (st : Mx × List (Nat × Nat × Nat)) (f : Nat) (hn : st.1.n ≤ 16) : (uStep t st f).2.length ≤ st.2.length + 16 := by
  unfold uStep
  split
  · rw [List.length_append, List.length_map]
    have := st.1.row_len f
    show st.2.length + (st.1.row f).length ≤ _
    omega
  · omega

theorem uAt_len {m : Mx} (hn : m.n ≤ 16) (ho : One m) : ∀ (t : Nat), t ≤ m.r → ∀ q, (t + 1 + q ≤ m.r ∨ q = 0) → (m.uAt t q).2.length ≤ t * 16 * 8 + q * 16 ∨ 8 < m.r
  | t, ht, q + 1, hq => by
    have hw := uAt_way hn ho t q (by omega)
    rcases uAt_len hn ho t ht q (by omega) with h | h
    · left
      rw [uAt_succ]
      have := uStep_len t (m.uAt t q) (t + 1 + q) (by rw [hw.kp.n]; exact hn)
      rw [Nat.succ_mul]; omega
    · exact .inr h
  | 0, _, 0, _ => .inl (by rw [uAt_zero]; simp)
  | t + 1, ht, 0, _ => by
    rcases uAt_len hn ho t (by omega) (m.r - (t + 1)) (by omega) with h | h
    · rcases Nat.lt_or_ge 8 m.r with h8 | h8
      · exact .inr h8
      · left
        rw [uAt_row m t (by omega)] at h
        omega
    · exact .inr h

theorem unify_nil (w : World) :
    Calls Try.prog 26 #[.pointer none] w fun e w' => e = .returned (.tuple #[.pointer none, .slice none 0 0]) ∧ w = w' := by
  go_enter Try.func26, Try.ntmps26
  go_wp2_with fail
  refine (copy_nil w).mono ?_
  rintro e w' ⟨rfl, rfl⟩
  go_wp2_with fail
  refine (size_nil w).mono ?_
  rintro e w' ⟨rfl, rfl⟩
  go_wp2
  go_loop [7, 19] (fun v i => v = .slice none 0 0 ∧ i = .int .i64 0) (fun _ _ => 0)
  case atStart => exact ⟨rfl, rfl⟩
  case round =>
    obtain ⟨rfl, rfl⟩ := hrel
    go_wp2
    go_ret2
    exact ⟨rfl, rfl⟩

set_option maxHeartbeats 8000000 in
theorem unify_any (w : World) (b : Nat) (m : Mx) (h : MxAt w b m) (ho : One m) :
    Calls Try.prog 26 #[.pointer (some ⟨b, 0, none⟩)] w fun e w' => ∃ v, e = .returned (.tuple #[.pointer (some ⟨w.heap.size, 0, none⟩), v]) ∧ w'.ownsRow w.heap.size 76 3 v m.unify.2.length (mvcs m.unify.2) ∧ MxAt w' w.heap.size m.unify.1 ∧ Below w.heap.size w w' := by
  have HH := hid h
  have HB := hid h.lt
  have hr8 := h.r8
  have hr1 := h.r1
  have hn16 := h.n16
  have hri : (m.r : Int) ≤ 8 := by omega
  have HO := hid ho
  clear h ho
  go_enter Try.func26, Try.ntmps26
  go_wp2_with fail
  refine (copy_any w b m HH.out).mono ?_
  rintro e w1 ⟨rfl, hm1, hb1⟩
  have HM1 := hid hm1
  have HB1 := hid hb1
  have hs1 := hm1.lt
  clear hm1 hb1
  go_wp2_with fail
  refine (size_any w1 w.heap.size m HM1.out).mono ?_
  rintro e w2 ⟨rfl, nd, rfl⟩
  have HD := hid (show Below w.heap.size w (w1.drewN nd) from HB1.out.trans ⟨rfl, rfl, rfl, Nat.le_refl _, fun _ _ => rfl⟩)
  have HMD := hid (show MxAt (w1.drewN nd) w.heap.size m from HM1.out.block rfl)
  have hsd : w.heap.size < (w1.drewN nd).heap.size := hs1
  go_wp2
  go_loopw [7, 19] (fun v i wr => ∃ t : Nat, t ≤ m.r ∧ i = .int .i64 t ∧ wr.ownsRow (w.heap.size + 1) 76 3 v (m.uAt t 0).2.length (mvcs (m.uAt t 0).2) ∧ MxAt wr w.heap.size (m.uAt t 0).1 ∧ Below w.heap.size w wr) (fun _ i _ => m.r - (intOf i).toNat)
  case atStart => exact ⟨0, Nat.zero_le _, rfl, World.ownsRow_nil _ _ _ _, HMD.out, HD.out⟩
  case round =>
    obtain ⟨t, ht, rfl, hv, hm, hB⟩ := hrel
    have HV := hid hv
    have HM := hid hm
    have HK := hid hB
    clear hv hm hB
    by_cases hlt : t < m.r
    · have hti : (t : Int) < (m.r : Int) := by omega
      have ht8 : (t : Int) < 8 := by omega
      obtain ⟨wq, hwq⟩ : ∃ wq, wq = wr := ⟨_, rfl⟩
      subst hwq
      go_wp2
      go_loopw [7, 9] (fun v i wr => ∃ q : Nat, t + 1 + q ≤ m.r ∧ i = .int .i64 ((t + 1 + q : Nat) : Int) ∧ wr.ownsRow (w.heap.size + 1) 76 3 v (m.uAt t q).2.length (mvcs (m.uAt t q).2) ∧ MxAt wr w.heap.size (m.uAt t q).1 ∧ Below w.heap.size w wr) (fun _ i _ => m.r - (intOf i).toNat)
      case atStart => exact ⟨0, by omega, by go_num, HV.out, HM.out, HK.out⟩
      case round =>
        obtain ⟨q, hq, rfl, hv, hm, hB⟩ := hrel
        have HV := hid hv
        have HM := hid hm
        have HK := hid hB
        have hs0 := hB.size
        have hsm := hm.lt
        have hway := uAt_way hn16 HO.out t q (by omega)
        have hlen := (uAt_len hn16 HO.out t ht q (by omega)).resolve_right (by omega)
        have hr' := hway.kp.r
        have hn' := hway.kp.n
        have HO1 := hid hway.kp.one
        have hl2 : (m.uAt t q).2.length ≤ 8 * 16 * 8 + 8 * 16 := by
          have h1 : t * 16 * 8 ≤ 8 * 16 * 8 := Nat.mul_le_mul_right _ (Nat.mul_le_mul_right _ (by omega))
          have h2 : q * 16 ≤ 8 * 16 := Nat.mul_le_mul_right _ (by omega)
          omega
        clear hv hm hB hway hlen
        obtain ⟨f, hf⟩ : ∃ f, f = t + 1 + q := ⟨_, rfl⟩
        have HFQ := hid hf
        rw [← hf]
        by_cases hfr : t + 1 + q < m.r
        · have hfi : (f : Int) < (m.r : Int) := by omega
          have hfm : f < m.r := by omega
          have htf : t < f := by omega
          have HS := hid (show m.uAt t (q + 1) = uStep t (m.uAt t q) f by rw [uAt_succ, ← hf])
          generalize hst : m.uAt t q = st at *
          clear hst hf hfr
          obtain ⟨wz, hwz⟩ : ∃ wz, wz = wr := ⟨_, rfl⟩
          subst hwz
          have hfs : f < st.1.r := by omega
          have hts : t < st.1.r := by omega
          go_wp2_with fail
          refine (row_any wz w.heap.size f st.1 HM.out hfs).mono ?_
          rintro e w3 ⟨v3, rfl, hv3, -, hb3⟩
          have HB3 := hid hb3
          have HM3 := hid (HM.out.below hb3 hsm)
          have HR3 := hid (RdV.of_own hv3)
          have HOF := hid (Off.of_own hv3 hsm)
          have hs3 := hb3.size
          have HV3 := hid (owns_below HV.out hb3)
          clear hb3 hv3
          go_wp2_with fail
          refine (goes_sh w3 w.heap.size t st.1 v3 (st.1.row f) HM3.out hts HR3.out).mono ?_
          rintro e w4 ⟨rfl, hb4⟩
          have HB4 := hid hb4
          have hs4 := hb4.size
          have HM4 := hid (HM3.out.below hb4 (by omega))
          have HV4 := hid (owns_below HV3.out hb4)
          clear hb4
          cases hgo : st.1.goes t (st.1.row f) with
          | false =>
            have HU := hid (show m.uAt t (q + 1) = st by rw [HS.out]; unfold uStep; rw [hgo, if_neg (by simp)])
            clear hgo
            go_wp2
            go_roundw
            case rel => exact ⟨q + 1, by have := HFQ.out; omega, by rw [HFQ.out]; go_num, by rw [HU.out]; exact HV4.out, by rw [HU.out]; exact HM4.out, HK.out.trans ((HB3.out.mono hs0).trans (HB4.out.mono (by omega)))⟩
            case measure => simp [intOf]; omega
          | true =>
            have HU := hid (show m.uAt t (q + 1) = (st.1.shift f t (st.1.row f), st.2 ++ (st.1.row f).map fun j => (j, f, t)) by rw [HS.out]; unfold uStep; rw [hgo, if_pos rfl])
            have hcan := row_canGo HO1.out hfs hts (by omega) hgo (fun x hx => hx)
            have HCA := hid hcan
            have hrl := st.1.row_len f
            have hrl2 : (st.1.row f).length ≤ 16 := by omega
            clear hcan hgo hrl
            go_wp2_with fail
            refine (shift_any w4 w.heap.size f t st.1 v3 (st.1.row f) HM4.out HO1.out (st.1.row_nodup f) HCA.out hts (by omega) (HR3.out.all HB4.out) HOF.out).mono ?_
            rintro e w5 ⟨v5, rfl, hv5, hm5, hk5⟩
            have HV5 := hid hv5
            have HM5 := hid hm5
            have HK5 := hid hk5
            have hs5 := hk5.size
            have hvo := owns_by HV4.out fun g hg => hk5.block g (World.ownsRow.lt HV4.out g hg).2 (by have := (World.ownsRow.lt HV4.out g hg).1; omega)
            obtain ⟨av, cv, rfl, hcv1, hcv2⟩ := owns_slice hvo
            obtain ⟨av5, cv5, rfl, hcw1, hcw2⟩ := owns_slice hv5
            have HVO := hid hvo
            clear hv5 hm5 hk5 hvo
            generalize hml : (st.1.row f).length = rl at *
            generalize hsl : st.2.length = sl at *
            have HML := hid hml
            have HSL := hid hsl
            clear hml hsl
            go_wp2_with (at_builtin; (refine appsw (by rfl) 58 76 (.tmp 36) (.tmp 40) rfl (w.heap.size + 1) 3 24 _ Try.underlying58 Try.infoMove rfl (by decide) _ _ sl rl (sl + rl) _ _ rfl rfl HVO.out (SrcC.of_own HV5.out) (by rw [mvcs_len, List.length_map, HML.out]) (mvcs_one _) rfl (by omega) (by omega) (by omega) ?_); intro ad9 cp9 wA hoA hgA; have HOA := hid hoA; have HGA := hid hgA; clear hoA hgA)
            have hmA := HM5.out.block (HGA.out.block w.heap.size (by omega) (fun e => by have := (World.ownsRow.lt HVO.out _ e.symm).1; omega))
            have hbA : Below w.heap.size w wA := HK.out.trans ((HB3.out.mono hs0).trans ((HB4.out.mono (by omega)).trans ((HK5.out.below (by omega) (fun i hi => by omega)).trans (Below.grown (Below.refl _ _) HGA.out (by omega) (fun g hg => by have := (World.ownsRow.lt HVO.out g hg).1; omega)))))
            have HMA := hid hmA
            have HBA := hid hbA
            clear hmA hbA
            go_wp2
            go_roundw
            case rel => exact ⟨q + 1, by have := HFQ.out; omega, by rw [HFQ.out]; go_num, by rw [HU.out]; show World.ownsRow _ _ _ _ _ (st.2 ++ _).length (mvcs (st.2 ++ _)) ; rw [List.length_append, List.length_map, HML.out, HSL.out, mvcs_append]; exact HOA.out, by rw [HU.out]; exact HMA.out, HBA.out⟩
            case measure => simp [intOf]; omega
        · have e : q = m.r - (t + 1) := by omega
          have HE := hid (show m.uAt t q = m.uAt (t + 1) 0 by rw [e, uAt_row m t hlt])
          have hki : ¬ (f : Int) < (m.r : Int) := by omega
          clear hfr e hf
          go_wp2
          go_roundw
          case rel => exact ⟨t + 1, hlt, by go_num, by rw [← HE.out]; exact HV.out, by rw [← HE.out]; exact HM.out, HK.out⟩
          case measure => simp [intOf]; omega
    · have e : t = m.r := by omega
      have HE := hid (show m.uAt t 0 = m.unify by rw [e, uAt_last])
      have hki : ¬ (t : Int) < (m.r : Int) := by omega
      clear e hlt
      go_wp2
      go_ret2
      exact ⟨_, rfl, by rw [← HE.out]; exact owns_base HV.out (by omega), by rw [← HE.out]; exact HM.out, HK.out⟩

end Go.Proofs.Ytnffmijanikjgaa
