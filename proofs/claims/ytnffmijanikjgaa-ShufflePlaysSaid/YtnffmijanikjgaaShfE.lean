/-
  Contracts of shuffle: Repack.
-/
import Derived.Test.YtnffmijanikjgaaShfD
namespace Go.Proofs.Ytnffmijanikjgaa
open Go.RowKit Go.Shelf
set_option linter.unusedVariables false

/-- Behind the rows ahead of f. -/
def Mx.rTo (m : Mx) (f : Nat) : Mx × List (Nat × Nat × Nat) := (List.range f).foldl rRow (m, [])
/-- And the first q jobs of row f. -/
def Mx.rAt (m : Mx) (f q : Nat) : Mx × List (Nat × Nat × Nat) := (((m.rTo f).1.row f).take q).foldl (rJob f) (m.rTo f)

theorem rAt_zero (m : Mx) (f : Nat) : m.rAt f 0 = m.rTo f := by simp [Mx.rAt]
theorem rAt_succ (m : Mx) (f q j : Nat) (h : ((m.rTo f).1.row f)[q]? = some j) : m.rAt f (q + 1) = rJob f (m.rAt f q) j := by
  unfold Mx.rAt
  rw [take_snoc' _ _ _ h, List.foldl_append]; rfl
theorem rAt_row (m : Mx) (f : Nat) : m.rAt f ((m.rTo f).1.row f).length = m.rTo (f + 1) := by
  unfold Mx.rAt
  rw [List.take_length]
  show _ = (List.range (f + 1)).foldl rRow (m, [])
  rw [List.range_succ, List.foldl_append]; rfl
theorem rTo_last (m : Mx) : m.rTo m.r = m.repack := rfl

theorem rTo_way {m : Mx} (hn : m.n ≤ 16) (ho : One m) (f : Nat) (hf : f ≤ m.r) : Way m (m.rTo f) :=
  Way.rRows hn ho _ (Way.start ho) fun x hx => by rw [List.mem_range] at hx; omega

theorem Way.rMid {m : Mx} (hn : m.n ≤ 16) (ho : One m) {f : Nat} (hf : f < m.r) : ∀ (J1 : List Nat) {J2 : List Nat} {st : Mx × List (Nat × Nat × Nat)}, Way m st → (J1 ++ J2).Nodup → (∀ j ∈ J1 ++ J2, j ∈ st.1.row f) → Way m (J1.foldl (Go.Proofs.Ytnffmijanikjgaa.rJob f) st) ∧ ∀ j ∈ J2, j ∈ (J1.foldl (Go.Proofs.Ytnffmijanikjgaa.rJob f) st).1.row f
  | [], J2, st, h, _, hJ => ⟨h, hJ⟩
  | j :: J1, J2, st, h, hd, hJ => by
    rw [List.cons_append, List.nodup_cons] at hd
    have h1 := h.rJob hn ho hf (hJ j (by simp))
    exact Way.rMid hn ho hf J1 h1.1 hd.2 fun j' hj' => h1.2 j' (fun e => hd.1 (e ▸ hj')) (hJ j' (by rw [List.cons_append]; exact List.mem_cons_of_mem _ hj'))

theorem rAt_way {m : Mx} (hn : m.n ≤ 16) (ho : One m) (f q : Nat) (hf : f < m.r) : Way m (m.rAt f q) ∧ ∀ j, ((m.rTo f).1.row f)[q]? = some j → j ∈ (m.rAt f q).1.row f := by
  have h := Way.rMid hn ho hf (((m.rTo f).1.row f).take q) (J2 := ((m.rTo f).1.row f).drop q) (rTo_way hn ho f (by omega)) (by rw [List.take_append_drop]; exact Mx.row_nodup _ _) (by rw [List.take_append_drop]; exact fun j hj => hj)
  exact ⟨h.1, fun j hj => h.2 j (by rw [drop_cons' hj]; simp)⟩

theorem rJob_len (f : Nat) (st : Mx × List (Nat × Nat × Nat)) (j : Nat) : (rJob f st j).2.length ≤ st.2.length + 1 := by
  rw [rJob_led, List.length_append]
  have := led_len st.1 f j
  omega
theorem rJobs_len (f : Nat) : ∀ (J : List Nat) (st : Mx × List (Nat × Nat × Nat)), (J.foldl (rJob f) st).2.length ≤ st.2.length + J.length
  | [], st => Nat.le_refl _
  | j :: J, st => by
    have h1 := rJobs_len f J (rJob f st j)
    have h2 := rJob_len f st j
    rw [List.foldl_cons, List.length_cons]; omega

theorem rTo_len {m : Mx} (hn : m.n ≤ 16) (ho : One m) : ∀ f, f ≤ m.r → (m.rTo f).2.length ≤ f * 16
  | 0, _ => by simp [Mx.rTo]
  | f + 1, hf => by
    have h1 := rTo_len hn ho f (by omega)
    have h2 := rJobs_len f ((m.rTo f).1.row f) (m.rTo f)
    have h3 := (m.rTo f).1.row_len f
    rw [(rTo_way hn ho f (by omega)).kp.n] at h3
    have h4 : m.rTo (f + 1) = ((m.rTo f).1.row f).foldl (rJob f) (m.rTo f) := by
      show (List.range (f + 1)).foldl rRow (m, []) = _
      rw [List.range_succ, List.foldl_append]; rfl
    rw [h4, Nat.succ_mul]; omega

theorem repack_nil (w : World) :
    Calls Try.prog 28 #[.pointer none] w fun e w' => e = .returned (.tuple #[.pointer none, .slice none 0 0]) ∧ w = w' := by
  go_enter Try.func28, Try.ntmps28
  go_wp2_with fail
  refine (copy_nil w).mono ?_
  rintro e w' ⟨rfl, rfl⟩
  go_wp2_with fail
  refine (size_nil w).mono ?_
  rintro e w' ⟨rfl, rfl⟩
  go_wp2
  go_loop [7, 19] (fun v i => v = .slice none 0 0 ∧ i = .int .i64 0) (fun _ _ => 0)
  case atStart => exact ⟨rfl, rfl⟩
  case round =>
    obtain ⟨rfl, rfl⟩ := hrel
    go_wp2
    go_ret2
    exact ⟨rfl, rfl⟩

set_option maxHeartbeats 8000000 in
theorem repack_any (w : World) (b : Nat) (m : Mx) (h : MxAt w b m) (ho : One m) :
    Calls Try.prog 28 #[.pointer (some ⟨b, 0, none⟩)] w fun e w' => ∃ v, e = .returned (.tuple #[.pointer (some ⟨w.heap.size, 0, none⟩), v]) ∧ w'.ownsRow w.heap.size 76 3 v m.repack.2.length (mvcs m.repack.2) ∧ MxAt w' w.heap.size m.repack.1 ∧ Below w.heap.size w w' := by
  have HH := hid h
  have HB := hid h.lt
  have hr8 := h.r8
  have hr1 := h.r1
  have hn16 := h.n16
  have hri : (m.r : Int) ≤ 8 := by omega
  have HO := hid ho
  clear h ho
  go_enter Try.func28, Try.ntmps28
  go_wp2_with fail
  refine (copy_any w b m HH.out).mono ?_
  rintro e w1 ⟨rfl, hm1, hb1⟩
  have HM1 := hid hm1
  have HB1 := hid hb1
  have hs1 := hm1.lt
  clear hm1 hb1
  go_wp2_with fail
  refine (size_any w1 w.heap.size m HM1.out).mono ?_
  rintro e w2 ⟨rfl, nd, rfl⟩
  have HD := hid (show Below w.heap.size w (w1.drewN nd) from HB1.out.trans ⟨rfl, rfl, rfl, Nat.le_refl _, fun _ _ => rfl⟩)
  have HMD := hid (show MxAt (w1.drewN nd) w.heap.size m from HM1.out.block rfl)
  have hsd : w.heap.size < (w1.drewN nd).heap.size := hs1
  go_wp2
  go_loopw [7, 19] (fun v i wr => ∃ f : Nat, f ≤ m.r ∧ i = .int .i64 f ∧ wr.ownsRow (w.heap.size + 1) 76 3 v (m.rTo f).2.length (mvcs (m.rTo f).2) ∧ MxAt wr w.heap.size (m.rTo f).1 ∧ Below w.heap.size w wr) (fun _ i _ => m.r - (intOf i).toNat)
  case atStart => exact ⟨0, Nat.zero_le _, rfl, World.ownsRow_nil _ _ _ _, HMD.out, HD.out⟩
  case round =>
    obtain ⟨f, hf, rfl, hv, hm, hB⟩ := hrel
    have HV := hid hv
    have HM := hid hm
    have HK := hid hB
    have hsm := hm.lt
    have hs0 := hB.size
    clear hv hm hB
    by_cases hlt : f < m.r
    · have hfi : (f : Int) < (m.r : Int) := by omega
      have hf8 : (f : Int) < 8 := by omega
      obtain ⟨wq, hwq⟩ : ∃ wq, wq = wr := ⟨_, rfl⟩
      subst hwq
      obtain ⟨vo, hvo⟩ : ∃ vo, vo = u7 := ⟨_, rfl⟩
      subst hvo
      have hway0 := rTo_way hn16 HO.out f hf
      have hfs : f < (m.rTo f).1.r := by rw [hway0.kp.r]; exact hlt
      have hrl := (m.rTo f).1.row_len f
      rw [hway0.kp.n] at hrl
      clear hway0
      go_wp2_with fail
      refine (row_any wq w.heap.size f (m.rTo f).1 HM.out hfs).mono ?_
      rintro e w3 ⟨v3, rfl, hv3, -, hb3⟩
      have HB3 := hid hb3
      have hs3 := hb3.size
      have HM3 := hid (HM.out.below hb3 hsm)
      have HR3 := hid (RdV.of_own hv3)
      have HV3 := hid (owns_below HV.out hb3)
      have HG0 := hid (World.ownsRow.lt HV.out)
      obtain ⟨ad, cp, rfl, hcl, hcm⟩ := (RdV.of_own hv3).len
      rw [List.length_map] at hcl HR3
      have HNG := hid (show ∀ g o, ad = some ⟨g, o, none⟩ → wq.heap.size ≤ g from fun g o e => by
        subst e
        rcases hv3.2 with ⟨hv, _⟩ | ⟨g', cap', cur', hv, hbb, _⟩
        · cases hv
        · simp only [Value.slice.injEq, Option.some.injEq, Addr.mk.injEq] at hv
          omega)
      clear hb3 hv3
      rw [List.length_map]
      generalize hJ : (m.rTo f).1.row f = J at *
      have HJ := hid hJ
      clear hJ
      go_wp2_with fail
      go_loopw [7, 26] (fun v i wr => ∃ q : Nat, q ≤ J.length ∧ i = .int .i64 q ∧ wr.ownsRow (w.heap.size + 1) 76 3 v (m.rAt f q).2.length (mvcs (m.rAt f q).2) ∧ MxAt wr w.heap.size (m.rAt f q).1 ∧ Keeps (fun i => i = w.heap.size ∨ vo.ownBlock = some i) w3 wr ∧ (∀ g, v.ownBlock = some g → vo.ownBlock = some g ∨ w3.heap.size ≤ g)) (fun _ i _ => J.length - (intOf i).toNat)
      case atStart => exact ⟨0, Nat.zero_le _, rfl, by rw [rAt_zero]; exact HV3.out, by rw [rAt_zero]; exact HM3.out, Keeps.refl _ _, fun g hg => .inl hg⟩
      case round =>
        obtain ⟨q, hq, rfl, hv, hm, hKP, hPL⟩ := hrel
        have HV5 := hid hv
        have HM5 := hid hm
        have HKP := hid hKP
        have HPL := hid hPL
        have hs5 := hKP.size
        have hsm5 := hm.lt
        have hway := rAt_way hn16 HO.out f q hlt
        have hr' := hway.1.kp.r
        have hn' := hway.1.kp.n
        have HO1 := hid hway.1.kp.one
        have hl1 := rTo_len hn16 HO.out f hf
        have hl2 := rJobs_len f (((m.rTo f).1.row f).take q) (m.rTo f)
        have hl3 : (m.rAt f q).2.length ≤ 8 * 16 + 16 := by
          rw [HJ.out, List.length_take] at hl2
          have h2 : f * 16 ≤ 8 * 16 := Nat.mul_le_mul_right _ (by omega)
          unfold Mx.rAt
          rw [HJ.out]
          omega
        clear hv hm hKP hPL hl1 hl2
        by_cases hql : q < J.length
        · obtain ⟨j, hj⟩ : ∃ x, J[q]? = some x := ⟨_, List.getElem?_eq_getElem hql⟩
          have hqi : (q : Int) < (J.length : Int) := by omega
          have hjm := hway.2 j (by rw [HJ.out]; exact hj)
          have HS := hid (rAt_succ m f q j (by rw [HJ.out]; exact hj))
          obtain ⟨-, g2, o2, hca, hg2, hcl2⟩ := HR3.out.at1 q (uv j) (by simp [hj])
          have hcell : wr.cell? ⟨g2, o2 + q, none⟩ = some (.int .u32 (j : Nat)) := by
            have hne : ¬ (g2 = w.heap.size ∨ vo.ownBlock = some g2) := by
              have := HNG.out g2 o2 hca
              rintro (e | e)
              · omega
              · have := (HG0.out g2 e).2; omega
            rw [HKP.out.cell (p := ⟨g2, o2 + q, none⟩) hg2 hne]
            exact hcl2
          subst hca
          clear hj hg2 hcl2 hway
          generalize hst : m.rAt f q = st at *
          clear hst
          have HJM := hid hjm
          clear hjm
          have hfs2 : f < st.1.r := by omega
          obtain ⟨wz, hwz⟩ : ∃ wz, wz = wr := ⟨_, rfl⟩
          subst hwz
          go_wp2_with fail
          refine (lead_any wz w.heap.size f j st.1 HM5.out HO1.out hfs2 HJM.out).mono ?_
          rintro e w6 ⟨v6, rfl, hv6, hm6, hk6⟩
          have HV6 := hid hv6
          have HM6 := hid hm6
          have HK6 := hid hk6
          have hs6 := hk6.size
          have hll := led_len st.1 f j
          have HS2 := hid (show m.rAt f (q + 1) = ((st.1.led f j).1, st.2 ++ (st.1.led f j).2) by rw [HS.out, rJob_led])
          have hvo := owns_by HV5.out fun g hg => hk6.block g (World.ownsRow.lt HV5.out g hg).2 (by have := (World.ownsRow.lt HV5.out g hg).1; omega)
          obtain ⟨av, cv, rfl, hcv1, hcv2⟩ := owns_slice hvo
          obtain ⟨av5, cv5, rfl, hcw1, hcw2⟩ := owns_slice hv6
          have HVO := hid hvo
          clear hv6 hm6 hk6 hvo
          generalize hld : st.1.led f j = ld at *
          generalize hml : ld.2.length = rl at *
          generalize hsl : st.2.length = sl at *
          have HML := hid hml
          have HSL := hid hsl
          clear hml hsl hld
          go_wp2_with (at_builtin; (refine appsw2 (by rfl) 58 76 (.tmp 30) (.tmp 34) rfl (w.heap.size + 1) 3 24 _ Try.underlying58 Try.infoMove rfl (by decide) _ _ sl rl (sl + rl) _ _ rfl rfl HVO.out (SrcC.of_own HV6.out) (by rw [mvcs_len, HML.out]) (mvcs_one _) rfl (by omega) (by omega) (by omega) ?_); intro ad9 cp9 wA hoA hgA hpA; have HOA := hid hoA; have HGA := hid hgA; have HPA := hid hpA; clear hoA hgA hpA)
          have hmA := HM6.out.block (HGA.out.block w.heap.size (by omega) (fun e => by have := (World.ownsRow.lt HVO.out _ e.symm).1; omega))
          have hkA : Keeps (fun i => i = w.heap.size ∨ vo.ownBlock = some i) w3 wA := by
            refine (HKP.out.trans' HK6.out (fun i _ e => .inl e)).trans' (Keeps.of_grown HGA.out) fun i h1 h2 => ?_
            rcases HPL.out i h2 with h | h
            · exact .inr h
            · omega
          have hpl : ∀ g, (Value.slice ad9 (sl + rl) cp9).ownBlock = some g → vo.ownBlock = some g ∨ w3.heap.size ≤ g := fun g hg => by
            rcases HPA.out g hg with h | h
            · exact HPL.out g h
            · right; omega
          have HMA := hid hmA
          have HKA := hid hkA
          have HPB := hid hpl
          clear hmA hkA hpl
          go_wp2
          go_roundw
          case rel => exact ⟨q + 1, hql, by go_num, by rw [HS2.out]; show World.ownsRow _ _ _ _ _ (st.2 ++ ld.2).length (mvcs (st.2 ++ ld.2)); rw [List.length_append, HML.out, HSL.out, mvcs_append]; exact HOA.out, by rw [HS2.out]; exact HMA.out, HKA.out, HPB.out⟩
          case measure => simp [intOf]; omega
        · have e : q = J.length := by omega
          have HE := hid (show m.rAt f q = m.rTo (f + 1) by rw [e, ← HJ.out, rAt_row])
          have hqi : ¬ (q : Int) < (J.length : Int) := by omega
          clear hql e hway
          go_wp2
          go_roundw
          case rel => exact ⟨f + 1, hlt, by go_num, by rw [← HE.out]; exact HV5.out, by rw [← HE.out]; exact HM5.out, HK.out.trans ((HB3.out.mono hs0).trans (HKP.out.below (by omega) (fun i hi => by
            rcases hi with e | e
            · omega
            · have := (HG0.out i e).1; omega)))⟩
          case measure => simp [intOf]; omega
    · have e : f = m.r := by omega
      have HE := hid (show m.rTo f = m.repack by rw [e, rTo_last])
      have hki : ¬ (f : Int) < (m.r : Int) := by omega
      clear e hlt
      go_wp2
      go_ret2
      exact ⟨_, rfl, by rw [← HE.out]; exact owns_base HV.out (by omega), by rw [← HE.out]; exact HM.out, HK.out⟩

end Go.Proofs.Ytnffmijanikjgaa
