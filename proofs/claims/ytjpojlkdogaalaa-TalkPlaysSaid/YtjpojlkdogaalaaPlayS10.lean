/-
  TalkPlays, in parts: there are ends.
-/
import Derived.Test.YtjpojlkdogaalaaRows
import Derived.WalkKit
import Derived.Test.YtjpojlkdogaalaaPlayT
import Derived.ProofKit
import Derived.Deep.Cut
import Derived.Deep.CutRange
import Derived.Deep.CutBlock
import Derived.Deep.RegionWith
import Derived.Below
namespace Go.Proofs.Ytjpojlkdogaalaa
open Go.RowKit
set_option linter.unusedVariables false
set_option linter.unusedSimpArgs false

set_option maxRecDepth 100000 in
set_option maxHeartbeats 16000000 in
theorem plays10_some (nd ep li : Int) (A0 : Option Addr) (L0 C0 : Nat) (w : World) (w4 : IsOps10 w A0 L0 C0) :
    Calls Try.prog 3 #[.int .u8 nd, .int .u32 ep, .int .u32 li, .bool false, .slice A0 L0 C0] w fun e w' => e = .returned (.bool true) ∧ Below w.heap.size w w' := by
  have HOPS := hid w4
  obtain ⟨ob1, ob2⟩ := w4.bounds
  clear w4
  go_enter Try.func3, Try.ntmps3
  go_wp2_with fail
  refine (awake10_any w).mono ?_
  rintro e wa ⟨rfl, hba⟩
  have HBA := hid hba
  have hsa := hba.size
  clear hba
  go_wp2_with fail
  refine (talknew_any nd ep li wa w.heap.size hsa).mono ?_
  rintro e w1 ⟨rfl, h1, hb1⟩
  have H1 := hid h1
  have hs1 := hb1.size
  have B1 := hid (HBA.out.trans (hb1.mono hsa))
  obtain ⟨b, hb⟩ : ∃ b, b = wa.heap.size := ⟨_, rfl⟩
  rw [← hb] at H1
  rw [← hb]
  clear h1 hb1 hb
  go_wp2_with fail
  refine (refnew_any nd ep li w1 w.heap.size (show w.heap.size ≤ w1.heap.size by omega)).mono ?_
  rintro e w2 ⟨rfl, h2, hb2⟩
  have R2 := hid h2
  have H2 := hid (H1.out.below hb2)
  have B2 := hid (B1.out.trans (hb2.mono (by omega)))
  obtain ⟨rb, hrb⟩ : ∃ rb, rb = w1.heap.size := ⟨_, rfl⟩
  rw [← hrb] at R2
  rw [← hrb]
  clear h2 hb2 hrb
  go_wp2_with fail
  go_loopw [50] (fun i wr => ∃ (k : Nat) (s : Tk), k ≤ L0 ∧ k ≤ 80 ∧ i = .int .i64 k ∧ TkAt wr w.heap.size b s ∧ RtAt wr w.heap.size rb s ∧ (s.all.length ≤ k ∧ s.heard ≤ k ∧ s.clock ≤ k) ∧ Below w.heap.size w wr) (fun i _ => L0 - (intOf i).toNat)
  case atStart => exact ⟨0, Tk.new nd ep li, by omega, by omega, rfl, H2.out, R2.out, ⟨Nat.le_refl _, Nat.le_refl _, Nat.le_refl _⟩, B2.out⟩
  case round =>
    obtain ⟨k, s, hk1, hk2, rfl, hA, hR, hst, hB⟩ := hrel
    have HA := hid hA
    have HR := hid hR
    have HST := hid hst
    have HB := hid hB
    have hsr := hB.size
    clear hA hR hB hst
    by_cases hlt : k < L0
    · obtain ⟨ob, off, eA, hob, d, A, L, C, t, kq, A2, L2, C2, hrg, hd, hct, hck, hsq, hak⟩ := HOPS.out.at k hlt
      subst eA
      have HRG := hid (show wr.rangeAt ob (off + k * 9) (ocells d A L C kq A2 L2 C2) from fun i v hv => (HB.out.cell (p := ⟨ob, off + k * 9 + i, none⟩) hob).trans (hrg i v hv))
      have HCT := hid hct
      have HCK := hid hck
      have HSQ := hid hsq
      have HAK := hid hak
      have hki : (k : Int) < (L0 : Int) := by omega
      clear hrg hct hck hsq hak
      by_cases h80 : k < 80
      · have h80i : (k : Int) < 80 := by omega
        have HK80 := hid h80
        have HLT := hid hlt
        clear h80 hk2 hk1 hlt
        go_upto_region 10 with (first
          | (refine wpList_load_mid rfl 33 (.tmp 53) rfl ob (off + k * 9) rfl _ _ HRG.out Try.underlying33 rfl (by rw [size_op10]; rfl) ?_)
          | (refine op_fresh rfl (.tmp 14) (.tmp 54) rfl wr #[.int .u8 (d : Int), .slice A L C, .int .u8 kq.node, .int .u32 kq.epoch, .int .u32 kq.life, .int .u32 (kq.seq : Int), .int .u32 (kq.ack : Int), .bool kq.plain, .slice A2 L2 C2] rfl rfl rfl (by simp [Value.oneCell']) ?_; intro wo hgo hbo; have HGO := hid hgo; have HBO := hid hbo; clear hgo hbo)
          | fail)
        obtain ⟨gx, hgx⟩ : ∃ gx, gx = wr.heap.size := ⟨_, rfl⟩
        rw [← hgx] at HGO
        rw [← hgx]
        have HGX := hid hgx
        have hgl : gx < wo.heap.size := (Array.getElem?_eq_some_iff.1 HGO.out).1
        have y1 : wo.cell? ⟨gx, 1, none⟩ = some (.slice A L C) := (cell_of_row _ _ _ _ _ _ HGO.out).trans rfl
        have hAl : Below wo.heap.size wo (wo.alloc (.cells #[] 5)) := (Below.refl _ _).alloc (Nat.le_refl _) _
        have z1 := (hAl.cell (p := ⟨gx, 1, none⟩) hgl).trans y1
        have HE := hid (Own.empty wo wo.heap.size (Nat.le_refl _))
        have HBo := hid (HB.out.trans (HBO.out.mono HB.out.size))
        have hso : w.heap.size ≤ wo.heap.size := HBo.out.size
        have HCO := hid (HCT.out.below HBo.out)
        have HPe := hid (HCO.out.rd.alloc (.cells #[] 5))
        have m60 := HCT.out.min
        have l1 := HCT.out.l1
        have l2 := HCT.out.l2
        have l3 := HCT.out.l3
        have l4 := HCT.out.l4
        have l5 := HCT.out.len
        have HNm0 := hid (show ∀ wm, (wo.alloc (.cells #[] 5)).grownBy wm (Value.slice (some ⟨wo.heap.size, 0, none⟩) 0 0).ownBlock → Below wo.heap.size wo wm from fun wm hg => ((Below.refl _ _).alloc (Nat.le_refl _) _).grown hg (by simp) (fun k hk => (HE.out.lt k hk).1))
        clear hAl hgx
        go_upto_block 2 with (first
          | (at_builtin; (refine appk rfl (.tmp 57) (.tmp 64) rfl wo.heap.size (.slice (some ⟨wo.heap.size, 0, none⟩) 0 0) _ [] t t t.length rfl rfl HE.out HPe.out (by simp) rfl (by simp; omega) (by simp) ?_); intro pa pc wm ho2 hg2; have Qm := hid ho2; have HNm := hid (HNm0.out wm hg2); clear ho2 hg2)
          | fail)
        have HGm := hid ((HNm.out.block gx hgl).trans HGO.out)
        have HBM := hid (HBo.out.trans (HNm.out.mono hso))
        have hsm : w.heap.size ≤ wm.heap.size := HBM.out.size
        have f0 : wm.cell? ⟨gx, 0, none⟩ = some (.int .u8 (d : Int)) := (cell_of_row _ _ _ _ _ _ HGm.out).trans rfl
        have HAm := hid ((HA.out.below HBO.out).below HNm.out)
        have HRm := hid ((HR.out.below HBO.out).below HNm.out)
        have HL5 := hid l5
        clear y1 z1 m60 l1 l2 l3 l4 l5
        go_cut [16, 17, 18, 19, 20, 21, 22, 23, 24, 25, 26, 27, 28, 29, 30, 31, 32, 33, 34] from 66 to 210 (fun v16 v17 v18 v19 v20 v21 v22 v23 v24 v25 v26 v27 v28 v29 v30 v31 v32 v33 v34 wx => ∃ s' : Tk, TkAt wx w.heap.size b s' ∧ RtAt wx w.heap.size rb s' ∧ (s'.all.length ≤ k + 1 ∧ s'.heard ≤ k + 1 ∧ s'.clock ≤ k + 1) ∧ Below w.heap.size w wx)
        case first =>
          have hparts : d < 2 ∨ d = 2 ∨ 2 < d := by omega
          rcases hparts with hdq | hdq | hdq
          · as_aux_lemma =>
              have hdi : (d : Int) < 2 := by omega
              clear hdq
              have HEm := hid (Own.empty wm wm.heap.size (Nat.le_refl _))
              have HREm := hid (Qm.out.rd.alloc (.cells #[] 5))
              have HM0 := hid (show ∀ w3, (wm.alloc (.cells #[] 5)).grownBy w3 (Value.slice (some ⟨wm.heap.size, 0, none⟩) 0 0).ownBlock → Below wm.heap.size wm w3 from fun w3 hg => ((Below.refl _ _).alloc (Nat.le_refl _) _).grown hg (by simp) (fun k hk => (HEm.out.lt k hk).1))
              have HWQ := hid (show wr.heap.size ≤ wm.heap.size from Nat.le_trans HBO.out.size HNm.out.size)
              obtain ⟨wq, hwq⟩ : ∃ wq, wq = wr := ⟨_, rfl⟩
              subst hwq
              go_wp2_with (first
                | (at_builtin; (refine appk rfl (.tmp 126) (.tmp 127) rfl wm.heap.size (.slice (some ⟨wm.heap.size, 0, none⟩) 0 0) _ [] t t t.length rfl rfl HEm.out HREm.out (by simp) rfl (by have := HL5.out; simp; omega) (by simp) ?_); intro ma mc w3 ho2 hg2; have HO3 := hid ho2; have HB3 := hid (HM0.out w3 hg2); clear ho2 hg2)
                | fail)
              clear f0
              have HS3 := hid (show wq.heap.size ≤ wm.heap.size ∧ wm.heap.size ≤ w3.heap.size ∧ w.heap.size ≤ wq.heap.size from ⟨HWQ.out, HB3.out.size, hsr⟩)
              have HA1 := hid (show TkAt w3 ⟨w.heap.size, fun q => q < wq.heap.size ∨ w3.heap.size ≤ q, fun _ => True⟩ b s from ((((HA.out.farP (fun q => q < wq.heap.size ∨ w3.heap.size ≤ q) (fun q hq _ => .inl hq)).below HBO.out).below HNm.out).below HB3.out))
              have B3 := hid (HBM.out.trans (HB3.out.mono hsm))
              refine (say_yes ⟨w.heap.size, fun q => q < wq.heap.size ∨ w3.heap.size ≤ q, fun _ => True⟩ b s ma mc t w3 HA1.out B3.out.size (Far.of_own HO3.out) (by have := HL5.out; omega) (by have h1 := HST.out; have h2 := HK80.out; rw [Tk.l_len]; omega) (by have h1 := HST.out; have h2 := HK80.out; omega) (fun q hq => .inr hq) (fun _ _ => trivial)).mono ?_
              rintro e w4 ⟨xa, xc, rfl, ho4, h4, k4⟩
              have O4 := hid ho4
              have H4 := hid h4
              have K4 := hid k4.kt
              have M4 := hid (HO3.out.kt k4.kt (by decide))
              have Q4 := hid ((Qm.out.below HB3.out).kt k4.kt (by decide))
              have hs4 := k4.size
              have B4 := hid (B3.out.trans k4.below)
              clear ho4 h4 k4
              dsimp only
              go_wp2_with (first
                | (refine pk_fresh rfl (.tmp 17) (.tmp 133) rfl w4 _ _ _ _ _ _ _ rfl rfl (by simp [Value.oneCell']) ?_; intro w5 hg5 hb5; have HG5 := hid hg5; have HB5 := hid hb5; clear hg5 hb5)
                | fail)
              have HS45 := hid (show w3.heap.size ≤ w4.heap.size ∧ w4.heap.size ≤ w5.heap.size from ⟨hs4, HB5.out.size⟩)
              have HR5 := hid (show RtAt w5 ⟨w.heap.size, fun q => q < wq.heap.size ∨ w5.heap.size ≤ q, fun _ => True⟩ rb s from ((((((HR.out.far' (fun q => q < wq.heap.size ∨ w5.heap.size ≤ q) (fun q hq _ => .inl hq)).below HBO.out).below HNm.out).below HB3.out).kt K4.out (by decide) (by decide) (by decide) (by decide)).below HB5.out))
              have B5 := hid (B4.out.trans (HB5.out.mono B4.out.size))
              have Q5 := hid (Q4.out.below HB5.out)
              refine (refsay_yes ⟨w.heap.size, fun q => q < wq.heap.size ∨ w5.heap.size ≤ q, fun _ => True⟩ rb s pa pc t w5 HR5.out B5.out.size Q5.out.rd (by have := HL5.out; omega) (by have h1 := HST.out; have h2 := HK80.out; rw [Tk.l_len]; omega) (by have h1 := HST.out; have h2 := HK80.out; omega) (fun q hq => .inr hq)).mono ?_
              rintro e w6 ⟨xb, xd, rfl, ho6, h6, k6⟩
              have O6 := hid ho6
              have R6 := hid h6
              have H6 := hid ((H4.out.below HB5.out).kt k6 (by decide) (by decide) (by decide))
              have M6 := hid ((M4.out.below HB5.out).kt k6 (by decide))
              have X6 := hid ((O4.out.below HB5.out).kt k6 (by decide))
              have Q6 := hid (Q5.out.kt k6 (by decide))
              have G6 := hid (k6.block HG5.out (by decide))
              have hs6 := k6.size
              have B6 := hid (B5.out.trans k6.below)
              clear ho6 h6 k6
              dsimp only
              go_wp2_with (first
                | (refine pk_fresh rfl (.tmp 19) (.tmp 139) rfl w6 _ _ _ _ _ _ _ rfl rfl (by simp [Value.oneCell']) ?_; intro w7 hg7 hb7; have HG7 := hid hg7; have HB7 := hid hb7; have G7 := hid ((hb7.block w4.heap.size (Array.getElem?_eq_some_iff.1 G6.out).1).trans G6.out); clear hg7 hb7)
                | (refine pk_ld rfl (.tmp 17) rfl w4.heap.size rfl _ _ _ _ _ _ _ G7.out ?_)
                | (refine pk_ld rfl (.tmp 19) rfl w6.heap.size rfl _ _ _ _ _ _ _ HG7.out ?_)
                | (go_at_call 14; refine (samepk_eq ⟨s.node, s.epoch, s.life, s.all.length + 1, s.heard, false, t⟩ xa xb xc xd w7 (X6.out.below HB7.out).rd (O6.out.below HB7.out).rd).mono ?_; rintro e w8 ⟨rfl, hb8⟩
                   have HB8 := hid hb8
                   clear hb8)
                | (go_at_call 15; refine (same_eq _ _ t w8 ((M6.out.below HB7.out).below HB8.out).rd ((Q6.out.below HB7.out).below HB8.out).rd).mono ?_; rintro e w' ⟨rfl, rfl⟩)
                | fail)
              have H8 := hid ((H6.out.below HB7.out).below HB8.out)
              have R8 := hid ((R6.out.below HB7.out).below HB8.out)
              have M8 := hid ((M6.out.below HB7.out).below HB8.out)
              have O8 := hid ((X6.out.below HB7.out).below HB8.out)
              have G8 := hid ((HB8.out.block w4.heap.size (Array.getElem?_eq_some_iff.1 G7.out).1).trans G7.out)
              have B8 := hid ((B6.out.trans (HB7.out.mono B6.out.size)).trans (HB8.out.mono (Nat.le_trans B6.out.size HB7.out.size)))
              go_loopw [158] (fun j' wr => ∃ (m : Nat) (l' : List UInt8), m ≤ t.length ∧ j' = .int .i64 m ∧ l'.length = t.length ∧ Own wr wm.heap.size (Value.slice ma t.length mc) l' ∧ Keeps (fun q => (Value.slice ma t.length mc).ownBlock = some q) w8 wr) (fun j' _ => t.length - (intOf j').toNat)
              case atStart => exact ⟨0, t, Nat.zero_le _, rfl, rfl, M8.out, Keeps.refl _ _⟩
              case round =>
                obtain ⟨m, l', hm, rfl, hl', hown, hki⟩ := hrel
                have HOI := hid hown
                have HKI := hid hki
                have HL' := hid hl'
                clear hown hki hl'
                by_cases hml : m < t.length
                · skip
                  obtain ⟨gg, cc, egg⟩ := own_head10 HOI.out (by have := HL'.out; omega)
                  simp only [Value.slice.injEq] at egg
                  obtain ⟨eg1, eg2, eg3⟩ := egg
                  clear eg2
                  subst eg1 eg3
                  have i1 := HOI.out.cell m (by have := HL'.out; omega)
                  have i2 := HOI.out.frozen m
                  obtain ⟨i30, i31, i32⟩ := HOI.out.caps
                  obtain ⟨x, hx⟩ : ∃ x, x = l'.getD m 0 := ⟨_, rfl⟩
                  rw [← hx] at i1
                  unfold bv at i1
                  have HST2 := hid (HOI.out.stored m (x ^^^ 1) _ (xor10 x))
                  have hmli : (m : Int) < (t.length : Int) := by omega
                  clear hx i30 hm
                  go_wp2_with fail
                  go_roundw
                  case rel => exact ⟨m + 1, _, hml, by go_num, by rw [List.length_set]; exact HL'.out, HST2.out, HKI.out.trans ((kset _ gg _ _).mono (fun q _ e => by subst e; rfl))⟩
                  case measure => simp [intOf]; omega
                · obtain rfl : m = t.length := by omega
                  obtain ⟨w9, hw9⟩ : ∃ w9, w9 = wr := ⟨_, rfl⟩
                  subst hw9
                  have H9 := hid (H8.out.bytes HKI.out (fun q hl e => by
                    obtain ⟨cur, hc⟩ := owns_ty M8.out q e
                    refine ⟨⟨cur, _, hc⟩, fun h => ?_⟩
                    have h1 := HO3.out.lt q e
                    have h3 := HS3.out
                    rcases h.1 with h | h <;> omega))
                  have R9 := hid (R8.out.bytes HKI.out (fun q hl e => by
                    obtain ⟨cur, hc⟩ := owns_ty M8.out q e
                    refine ⟨⟨cur, _, hc⟩, fun h => ?_⟩
                    have h1 := HO3.out.lt q e
                    have h2 := HS45.out
                    have h3 := HS3.out
                    rcases h with h | h <;> omega))
                  have O9 := hid (O8.out.to (fun q hq => HKI.out.block q (O8.out.lt q hq).2 (fun e => by
                    have h1 := (O8.out.lt q hq).1
                    have h2 := (HO3.out.lt q e).2
                    omega)))
                  have G9 := hid ((HKI.out.block w4.heap.size (Array.getElem?_eq_some_iff.1 G8.out).1 (fun e => by
                    obtain ⟨cur, hc⟩ := owns_ty M8.out _ e
                    exact ty_ne G8.out hc (by decide) rfl)).trans G8.out)
                  have B9 := hid (B8.out.trans (HKI.out.below B8.out.size (fun q hq => by have := (HO3.out.lt q hq).1; have := HS3.out; omega)))
                  have d6 : w9.cell? ⟨w4.heap.size, 6, none⟩ = some (Value.slice xa t.length xc) := (cell_of_row _ _ _ _ _ _ G9.out).trans rfl
                  go_wp2_with fail
                  clear d6
                  go_loopw [171] (fun j' wr => ∃ (m : Nat) (l' : List UInt8), m ≤ t.length ∧ j' = .int .i64 m ∧ l'.length = t.length ∧ Own wr w3.heap.size (Value.slice xa t.length xc) l' ∧ Keeps (fun q => (Value.slice xa t.length xc).ownBlock = some q) w9 wr) (fun j' _ => t.length - (intOf j').toNat)
                  case atStart => exact ⟨0, t, Nat.zero_le _, rfl, rfl, O9.out, Keeps.refl _ _⟩
                  case round =>
                    obtain ⟨m, l', hm, rfl, hl', hown, hki⟩ := hrel
                    have HOI := hid hown
                    have HKI := hid hki
                    have HL' := hid hl'
                    clear hown hki hl'
                    by_cases hml : m < t.length
                    · skip
                      have HGI := hid ((HKI.out.block w4.heap.size (Array.getElem?_eq_some_iff.1 G9.out).1 (fun e => by
                        obtain ⟨cur, hc⟩ := owns_ty O9.out _ e
                        exact ty_ne G9.out hc (by decide) rfl)).trans G9.out)
                      have c6 : wr.cell? ⟨w4.heap.size, 6, none⟩ = some (Value.slice xa t.length xc) := (cell_of_row _ _ _ _ _ _ HGI.out).trans rfl
                      obtain ⟨gg, cc, egg⟩ := own_head10 HOI.out (by have := HL'.out; omega)
                      simp only [Value.slice.injEq] at egg
                      obtain ⟨eg1, eg2, eg3⟩ := egg
                      clear eg2
                      subst eg1 eg3
                      have i1 := HOI.out.cell m (by have := HL'.out; omega)
                      have i2 := HOI.out.frozen m
                      obtain ⟨i30, i31, i32⟩ := HOI.out.caps
                      obtain ⟨x, hx⟩ : ∃ x, x = l'.getD m 0 := ⟨_, rfl⟩
                      rw [← hx] at i1
                      unfold bv at i1
                      have HST2 := hid (HOI.out.stored m (x ^^^ 1) _ (xor10 x))
                      have hmli : (m : Int) < (t.length : Int) := by omega
                      clear hx i30 hm
                      go_wp2_with fail
                      go_roundw
                      case rel => exact ⟨m + 1, _, hml, by go_num, by rw [List.length_set]; exact HL'.out, HST2.out, HKI.out.trans ((kset _ gg _ _).mono (fun q _ e => by subst e; rfl))⟩
                      case measure => simp [intOf]; omega
                    · obtain rfl : m = t.length := by omega
                      have HGI := hid ((HKI.out.block w4.heap.size (Array.getElem?_eq_some_iff.1 G9.out).1 (fun e => by
                        obtain ⟨cur, hc⟩ := owns_ty O9.out _ e
                        exact ty_ne G9.out hc (by decide) rfl)).trans G9.out)
                      have c6 : wr.cell? ⟨w4.heap.size, 6, none⟩ = some (Value.slice xa t.length xc) := (cell_of_row _ _ _ _ _ _ HGI.out).trans rfl
                      obtain ⟨wz, hwz⟩ : ∃ wz, wz = wr := ⟨_, rfl⟩
                      subst hwz
                      have HKX := hid HKI.out
                      have HFA := hid (show TkAt wz ⟨w.heap.size, fun q => (q < wq.heap.size ∨ w3.heap.size ≤ q) ∧ (Value.slice xa t.length xc).ownBlock ≠ some q, fun _ => True⟩ b (s.say t) from (H9.out.bytes HKX.out (fun q hl e => by
                        obtain ⟨cur, hc⟩ := owns_ty O9.out q e
                        exact ⟨⟨cur, _, hc⟩, fun h => h.2 e⟩)))
                      have HFR := hid (R9.out.bytes HKX.out (fun q hl e => by
                        obtain ⟨cur, hc⟩ := owns_ty O9.out q e
                        refine ⟨⟨cur, _, hc⟩, fun h => ?_⟩
                        have h1 := O4.out.lt q e
                        have h2 := HS45.out
                        have h3 := HS3.out
                        rcases h with h | h <;> omega))
                      have HBF := hid (B9.out.trans (HKX.out.below B9.out.size (fun q hq => by have := (O9.out.lt q hq).1; have := HS3.out; omega)))
                      clear HGI c6
                      go_wp2_with fail
                      go_meet
                      case rel => exact ⟨s.say t, HFA.out.free, HFR.out.free, by
                        have h2 := HST.out
                        refine ⟨?_, Nat.le_trans h2.2.1 (Nat.le_succ _), Nat.le_trans h2.2.2 (Nat.le_succ _)⟩
                        show (s.all ++ [_]).length ≤ k + 1
                        rw [List.length_append]
                        show s.all.length + 1 ≤ k + 1
                        omega, HBF.out⟩
          · as_aux_lemma =>
              subst hdq
              have q1 : ¬ ((2 : Nat) : Int) < 2 := by omega
              go_wp2_with fail
              have HCL := hid (show s.clock < 1000000 by have := HST.out.2.2; have := HK80.out; omega)
              refine (tick_any w.heap.size b s wm HAm.out hsm HCL.out).mono ?_
              rintro e w5 ⟨va, vc, rfl, hp5, h5, k5⟩
              have H5 := hid h5
              have R5 := hid (HRm.out.kt k5.kt (by decide) (by decide) (by decide) (by decide))
              have P5 := hid hp5
              have B5 := hid (HBM.out.trans k5.below)
              have hs5 := k5.size
              clear h5 k5 hp5
              go_wp2_with fail
              refine (reftick_any w.heap.size rb s w5 R5.out (show w.heap.size ≤ w5.heap.size by omega) HCL.out).mono ?_
              rintro e w6 ⟨vb, vd, rfl, hp6, h6, k6⟩
              have R6 := hid h6
              have H6 := hid (H5.out.kt k6 (by decide) (by decide) (by decide))
              have P6 := hid (P5.out.kt k6 (by decide) (by decide))
              have Q6 := hid hp6
              have B6 := hid (B5.out.trans k6.below)
              have hs6 := k6.size
              clear h6 k6 hp6
              obtain ⟨D, hD⟩ : ∃ D, D = s.outs.length := ⟨_, rfl⟩
              have HD := hid hD
              rw [← hD] at P6 Q6
              rw [← hD]
              clear hD
              go_wp2_with fail
              go_loopw [197] (fun i wr => ∃ p : Nat, p ≤ D ∧ i = .int .i64 p ∧ Below w6.heap.size w6 wr) (fun i _ => D - (intOf i).toNat)
              case atStart => exact ⟨0, Nat.zero_le _, rfl, Below.refl _ _⟩
              case round =>
                obtain ⟨p, hp, rfl, hbr⟩ := hrel
                have HBR := hid hbr
                clear hbr
                by_cases hlp : p < D
                · obtain ⟨K, hK⟩ : ∃ K, s.outs[p]? = some K := ⟨_, List.getElem?_eq_getElem (by have := HD.out; omega)⟩
                  obtain ⟨g1, va1, vc1, ea1, hg1, hc11, hc12, hr1, ho1⟩ := (P6.out.below HBR.out).at hK
                  obtain ⟨g2, va2, vc2, ea2, hg2, hc21, hc22, hr2, ho2⟩ := (Q6.out.below HBR.out).at hK
                  subst ea1
                  subst ea2
                  have Hx := hid hr1
                  have Hy := hid hr2
                  have HO1 := hid ho1.rd
                  have HO2 := hid ho2.rd
                  have hpi : (p : Int) < (D : Int) := by omega
                  have hp0 : (0 : Int) ≤ (p : Int) := by omega
                  clear hK hr1 hr2 ho1 ho2 hp
                  have x0 : wr.drew.cell? ⟨g1, p * 7, none⟩ = some (.int .u8 K.node) := Hx.out 0 _ rfl
                  have x1 : wr.drew.cell? ⟨g1, p * 7 + 1, none⟩ = some (.int .u32 K.epoch) := Hx.out 1 _ rfl
                  have x2 : wr.drew.cell? ⟨g1, p * 7 + 2, none⟩ = some (.int .u32 K.life) := Hx.out 2 _ rfl
                  have x3 : wr.drew.cell? ⟨g1, p * 7 + 3, none⟩ = some (.int .u32 (K.seq : Int)) := Hx.out 3 _ rfl
                  have x4 : wr.drew.cell? ⟨g1, p * 7 + 4, none⟩ = some (.int .u32 (K.ack : Int)) := Hx.out 4 _ rfl
                  have x5 : wr.drew.cell? ⟨g1, p * 7 + 5, none⟩ = some (.bool K.plain) := Hx.out 5 _ rfl
                  have x6 : wr.drew.cell? ⟨g1, p * 7 + 6, none⟩ = some (.slice va1 K.data.length vc1) := Hx.out 6 _ rfl
                  have y0 : wr.drew.cell? ⟨g2, p * 7, none⟩ = some (.int .u8 K.node) := Hy.out 0 _ rfl
                  have y1 : wr.drew.cell? ⟨g2, p * 7 + 1, none⟩ = some (.int .u32 K.epoch) := Hy.out 1 _ rfl
                  have y2 : wr.drew.cell? ⟨g2, p * 7 + 2, none⟩ = some (.int .u32 K.life) := Hy.out 2 _ rfl
                  have y3 : wr.drew.cell? ⟨g2, p * 7 + 3, none⟩ = some (.int .u32 (K.seq : Int)) := Hy.out 3 _ rfl
                  have y4 : wr.drew.cell? ⟨g2, p * 7 + 4, none⟩ = some (.int .u32 (K.ack : Int)) := Hy.out 4 _ rfl
                  have y5 : wr.drew.cell? ⟨g2, p * 7 + 5, none⟩ = some (.bool K.plain) := Hy.out 5 _ rfl
                  have y6 : wr.drew.cell? ⟨g2, p * 7 + 6, none⟩ = some (.slice va2 K.data.length vc2) := Hy.out 6 _ rfl
                  go_wp2_with fail
                  go_region_held3 (fun w' => w'.cell? ⟨g1, p * 7, none⟩ = some (.int .u8 K.node) ∧ w'.cell? ⟨g1, p * 7 + 1, none⟩ = some (.int .u32 K.epoch) ∧ w'.cell? ⟨g1, p * 7 + 2, none⟩ = some (.int .u32 K.life) ∧ w'.cell? ⟨g1, p * 7 + 3, none⟩ = some (.int .u32 (K.seq : Int)) ∧ w'.cell? ⟨g1, p * 7 + 4, none⟩ = some (.int .u32 (K.ack : Int)) ∧ w'.cell? ⟨g1, p * 7 + 5, none⟩ = some (.bool K.plain) ∧ w'.cell? ⟨g1, p * 7 + 6, none⟩ = some (.slice va1 K.data.length vc1) ∧ w'.cell? ⟨g2, p * 7, none⟩ = some (.int .u8 K.node) ∧ w'.cell? ⟨g2, p * 7 + 1, none⟩ = some (.int .u32 K.epoch) ∧ w'.cell? ⟨g2, p * 7 + 2, none⟩ = some (.int .u32 K.life) ∧ w'.cell? ⟨g2, p * 7 + 3, none⟩ = some (.int .u32 (K.seq : Int)) ∧ w'.cell? ⟨g2, p * 7 + 4, none⟩ = some (.int .u32 (K.ack : Int)) ∧ w'.cell? ⟨g2, p * 7 + 5, none⟩ = some (.bool K.plain) ∧ w'.cell? ⟨g2, p * 7 + 6, none⟩ = some (.slice va2 K.data.length vc2))
                    (first | (with_reducible refine ⟨?_, ?_, ?_, ?_, ?_, ?_, ?_, ?_, ?_, ?_, ?_, ?_, ?_, ?_⟩ <;> assumption) | (refine ⟨?_, ?_, ?_, ?_, ?_, ?_, ?_, ?_, ?_, ?_, ?_, ?_, ?_, ?_⟩ <;> first | exact (hb8'.cell (p := ⟨g1, p * 7, none⟩) hg1).trans x0 | exact (hb8'.cell (p := ⟨g1, p * 7 + 1, none⟩) hg1).trans x1 | exact (hb8'.cell (p := ⟨g1, p * 7 + 2, none⟩) hg1).trans x2 | exact (hb8'.cell (p := ⟨g1, p * 7 + 3, none⟩) hg1).trans x3 | exact (hb8'.cell (p := ⟨g1, p * 7 + 4, none⟩) hg1).trans x4 | exact (hb8'.cell (p := ⟨g1, p * 7 + 5, none⟩) hg1).trans x5 | exact (hb8'.cell (p := ⟨g1, p * 7 + 6, none⟩) hg1).trans x6 | exact (hb8'.cell (p := ⟨g2, p * 7, none⟩) hg2).trans y0 | exact (hb8'.cell (p := ⟨g2, p * 7 + 1, none⟩) hg2).trans y1 | exact (hb8'.cell (p := ⟨g2, p * 7 + 2, none⟩) hg2).trans y2 | exact (hb8'.cell (p := ⟨g2, p * 7 + 3, none⟩) hg2).trans y3 | exact (hb8'.cell (p := ⟨g2, p * 7 + 4, none⟩) hg2).trans y4 | exact (hb8'.cell (p := ⟨g2, p * 7 + 5, none⟩) hg2).trans y5 | exact (hb8'.cell (p := ⟨g2, p * 7 + 6, none⟩) hg2).trans y6) | fail)
                    (first | (go_at_call 14; refine (samepk_eq K va1 va2 vc1 vc2 wr.drew HO1.out HO2.out).mono ?_; rintro e w8 ⟨rfl, hb8⟩
                              have hb8' : Below wr.heap.size wr w8 := ⟨hb8.os, hb8.tape, hb8.output, hb8.size, hb8.block⟩
                              have HB8 := hid hb8'
                              clear hb8)
                           | fail)
                  clear x0 x1 x2 x3 x4 x5 x6 y0 y1 y2 y3 y4 y5 y6
                  go_wp2_with fail
                  go_roundw
                  case rel => exact ⟨p + 1, hlp, by go_num, HBR.out.trans (HB8.out.mono HBR.out.size)⟩
                  case measure => simp [intOf]; omega
                · obtain rfl : p = D := by omega
                  have HT := hid (Tk.tick_len s (by obtain ⟨_, _, hh⟩ := HAm.out; exact hh.ok.1))
                  go_wp2_with fail
                  go_meet
                  case rel => exact ⟨s.tick, H6.out.below HBR.out, R6.out.below HBR.out, by have h1 := HT.out; have h2 := HST.out; omega, B6.out.trans (HBR.out.mono B6.out.size)⟩
          · as_aux_lemma =>
              have q1 : ¬ (d : Int) < 2 := by omega
              have q2 : ((d : Int) == 2) = false := by rw [beq_eq_false_iff_ne]; omega
              clear hdq
              have HRX := hid (show wm.rangeAt gx 2 [.int .u8 kq.node, .int .u32 kq.epoch, .int .u32 kq.life, .int .u32 (kq.seq : Int), .int .u32 (kq.ack : Int), .bool kq.plain, .slice A2 L2 C2] from fun i v hv => by
                have hi : i < 7 := by have := (List.getElem?_eq_some_iff.1 hv).1; simpa using this
                rw [cell_of_row _ _ _ _ _ _ HGm.out]
                match i, hi, hv with
                | 0, _, hv => exact hv
                | 1, _, hv => exact hv
                | 2, _, hv => exact hv
                | 3, _, hv => exact hv
                | 4, _, hv => exact hv
                | 5, _, hv => exact hv
                | 6, _, hv => exact hv)
              have HBwmw := HBM
              go_wp2_with (first
                | (refine wpList_load_mid rfl 31 (.tmp 66) rfl gx 2 rfl _ _ HRX.out Try.underlying31 rfl (by rw [size_packet]; rfl) ?_)
                | (go_at_call 18; refine (few_any kq A2 L2 C2 wm HCK.out.min HCK.out.l1 HCK.out.l2 HCK.out.l3 HCK.out.l4 HCK.out.len (HCK.out.rd.below HBwmw.out)).mono ?_; rintro e w3 ⟨va, vc, rfl, ho3, hb3⟩
                   have DV3 := hid ho3
                   have HB3 := hid hb3
                   clear ho3 hb3)
                | (refine pk_fresh rfl (.tmp 26) (.tmp 68) rfl w3 _ _ _ _ _ _ _ rfl rfl (by simp [Value.oneCell']) ?_; intro w4 hg4 hb4
                   have HG26' := hid hg4
                   have HB4 := hid hb4
                   clear hg4 hb4)
                | fail)
              clear f0
              obtain ⟨g26, hg26⟩ : ∃ g26, g26 = w3.heap.size := ⟨_, rfl⟩
              rw [← hg26] at HG26'
              rw [← hg26]
              have HG26 := hid HG26'.out
              clear hg26 HG26'
              have HA4 := hid ((HAm.out.below HB3.out).below HB4.out)
              have HR4 := hid ((HRm.out.below HB3.out).below HB4.out)
              have HB4w := hid ((HBM.out.trans (HB3.out.mono hsm)).trans (HB4.out.mono (Nat.le_trans hsm HB3.out.size)))
              have DV4 := hid (DV3.out.below HB4.out)
              have HGX4 := hid ((HB4.out.block gx (Nat.lt_of_lt_of_le (Array.getElem?_eq_some_iff.1 HGm.out).1 HB3.out.size)).trans ((HB3.out.block gx (Array.getElem?_eq_some_iff.1 HGm.out).1).trans HGm.out))
              go_upto_region 12 with (fail)
              try simp only [Act.put, List.getElem_toArray, List.getElem_cons_succ, List.getElem_cons_zero, List.setIfInBounds_toArray, List.set_cons_zero, List.set_cons_succ]
              have HUN := hid (show ∀ (W : World) (L : Array Bool), W.heap[g26]? = some (.cells #[.int .u8 kq.node, .int .u32 kq.epoch, .int .u32 kq.life, .int .u32 (kq.seq : Int), .int .u32 (kq.ack : Int), .bool kq.plain, .slice va kq.data.length vc] 31 (0, 0)) → UntilAll [(2, (fun w' => w'.cell? ⟨g26, 0, none⟩ = some (.int .u8 kq.node) ∧ w'.cell? ⟨g26, 1, none⟩ = some (.int .u32 kq.epoch) ∧ w'.cell? ⟨g26, 2, none⟩ = some (.int .u32 kq.life) ∧ w'.cell? ⟨g26, 3, none⟩ = some (.int .u32 (kq.seq : Int)) ∧ w'.cell? ⟨g26, 4, none⟩ = some (.int .u32 (kq.ack : Int)) ∧ w'.cell? ⟨g26, 5, none⟩ = some (.bool kq.plain) ∧ w'.cell? ⟨g26, 6, none⟩ = some (.slice va kq.data.length vc))), (5, (fun w' => w'.cell? ⟨g26, 0, none⟩ = some (.int .u8 kq.node) ∧ w'.cell? ⟨g26, 1, none⟩ = some (.int .u32 kq.epoch) ∧ w'.cell? ⟨g26, 2, none⟩ = some (.int .u32 kq.life) ∧ w'.cell? ⟨g26, 3, none⟩ = some (.int .u32 (kq.seq : Int)) ∧ w'.cell? ⟨g26, 4, none⟩ = some (.int .u32 (kq.ack : Int)) ∧ w'.cell? ⟨g26, 5, none⟩ = some (.bool kq.plain) ∧ w'.cell? ⟨g26, 6, none⟩ = some (.slice va kq.data.length vc)))] L W from by
                intro W L hW c hc _
                simp only [List.mem_cons, List.not_mem_nil, or_false] at hc
                rcases hc with rfl | rfl <;> (refine ⟨?_, ?_, ?_, ?_, ?_, ?_, ?_⟩ <;> exact (cell_of_row _ _ _ _ _ _ hW).trans rfl))
              obtain ⟨wd, hwd⟩ : ∃ wd, wd = w4.drew := ⟨_, rfl⟩
              have HGwd := hid (show wd.heap[g26]? = some (.cells #[.int .u8 kq.node, .int .u32 kq.epoch, .int .u32 kq.life, .int .u32 (kq.seq : Int), .int .u32 (kq.ack : Int), .bool kq.plain, .slice va kq.data.length vc] 31 (0, 0)) by rw [hwd]; exact HG26.out)
              have HA12wd := hid (show TkAt wd w.heap.size b s by rw [hwd]; exact HA4.out.below (below_dr (Below.refl _ _)))
              have HR12wd := hid (show RtAt wd w.heap.size rb s by rw [hwd]; exact HR4.out.below (below_dr (Below.refl _ _)))
              have HB4d := hid (show Below w4.heap.size w4 wd by rw [hwd]; exact below_dr (Below.refl _ _))
              refine Orders.begins (C := [(2, (fun w' => w'.cell? ⟨g26, 0, none⟩ = some (.int .u8 kq.node) ∧ w'.cell? ⟨g26, 1, none⟩ = some (.int .u32 kq.epoch) ∧ w'.cell? ⟨g26, 2, none⟩ = some (.int .u32 kq.life) ∧ w'.cell? ⟨g26, 3, none⟩ = some (.int .u32 (kq.seq : Int)) ∧ w'.cell? ⟨g26, 4, none⟩ = some (.int .u32 (kq.ack : Int)) ∧ w'.cell? ⟨g26, 5, none⟩ = some (.bool kq.plain) ∧ w'.cell? ⟨g26, 6, none⟩ = some (.slice va kq.data.length vc))), (5, (fun w' => w'.cell? ⟨g26, 0, none⟩ = some (.int .u8 kq.node) ∧ w'.cell? ⟨g26, 1, none⟩ = some (.int .u32 kq.epoch) ∧ w'.cell? ⟨g26, 2, none⟩ = some (.int .u32 kq.life) ∧ w'.cell? ⟨g26, 3, none⟩ = some (.int .u32 (kq.seq : Int)) ∧ w'.cell? ⟨g26, 4, none⟩ = some (.int .u32 (kq.ack : Int)) ∧ w'.cell? ⟨g26, 5, none⟩ = some (.bool kq.plain) ∧ w'.cell? ⟨g26, 6, none⟩ = some (.slice va kq.data.length vc)))]) (by kernel_rfl) ?_
              rw [← hwd]
              clear hwd
              refine Orders.take (fun _ => True) [] (i := 0) (v := ?_) rfl (by kernel_rfl) (by kernel_rfl) (by kernel_rfl) (fun _ _ _ h => h) (by kernel_rfl) (fun _ _ _ _ => trivial) (by kernel_rfl) (by kernel_rfl) (Or.inl ⟨by rfl, ?_⟩) (HUN.out _ _ HGwd.out) (fun HU => ?_)
              rotate_left
              · intro u hSw
                try dsimp only at hSw
                go_simp
                try (with_reducible rfl)
              clear HU
              try simp only [Act.put, List.getElem_toArray, List.getElem_cons_succ, List.getElem_cons_zero, List.setIfInBounds_toArray, List.set_cons_zero, List.set_cons_succ]
              refine Orders.take (fun w' => w'.cell? ⟨g26, 0, none⟩ = some (.int .u8 kq.node) ∧ w'.cell? ⟨g26, 1, none⟩ = some (.int .u32 kq.epoch) ∧ w'.cell? ⟨g26, 2, none⟩ = some (.int .u32 kq.life) ∧ w'.cell? ⟨g26, 3, none⟩ = some (.int .u32 (kq.seq : Int)) ∧ w'.cell? ⟨g26, 4, none⟩ = some (.int .u32 (kq.ack : Int)) ∧ w'.cell? ⟨g26, 5, none⟩ = some (.bool kq.plain) ∧ w'.cell? ⟨g26, 6, none⟩ = some (.slice va kq.data.length vc)) [2] (i := 1) (v := ?_) rfl (by kernel_rfl) (by kernel_rfl) (by kernel_rfl) (fun _ _ _ h => h) (by kernel_rfl) (fun L u hd h => h (2, (fun w' => w'.cell? ⟨g26, 0, none⟩ = some (.int .u8 kq.node) ∧ w'.cell? ⟨g26, 1, none⟩ = some (.int .u32 kq.epoch) ∧ w'.cell? ⟨g26, 2, none⟩ = some (.int .u32 kq.life) ∧ w'.cell? ⟨g26, 3, none⟩ = some (.int .u32 (kq.seq : Int)) ∧ w'.cell? ⟨g26, 4, none⟩ = some (.int .u32 (kq.ack : Int)) ∧ w'.cell? ⟨g26, 5, none⟩ = some (.bool kq.plain) ∧ w'.cell? ⟨g26, 6, none⟩ = some (.slice va kq.data.length vc))) (by simp) (hd 2 (by simp))) (by kernel_rfl) (by kernel_rfl) (Or.inl ⟨by rfl, ?_⟩) (HUN.out _ _ HGwd.out) (fun HU => ?_)
              rotate_left
              · intro u hSw
                try dsimp only at hSw
                obtain ⟨s0, s1, s2, s3, s4, s5, s6⟩ := hSw
                go_simp
                try (with_reducible rfl)
              clear HU
              try simp only [Act.put, List.getElem_toArray, List.getElem_cons_succ, List.getElem_cons_zero, List.setIfInBounds_toArray, List.set_cons_zero, List.set_cons_succ]
              refine Orders.take (fun _ => True) [] (i := 3) (v := ?_) rfl (by kernel_rfl) (by kernel_rfl) (by kernel_rfl) (fun _ _ _ h => h) (by kernel_rfl) (fun _ _ _ _ => trivial) (by kernel_rfl) (by kernel_rfl) (Or.inl ⟨by rfl, ?_⟩) (HUN.out _ _ HGwd.out) (fun HU => ?_)
              rotate_left
              · intro u hSw
                try dsimp only at hSw
                go_simp
                try (with_reducible rfl)
              clear HU
              try simp only [Act.put, List.getElem_toArray, List.getElem_cons_succ, List.getElem_cons_zero, List.setIfInBounds_toArray, List.set_cons_zero, List.set_cons_succ]
              refine Orders.take (fun w' => w'.cell? ⟨g26, 0, none⟩ = some (.int .u8 kq.node) ∧ w'.cell? ⟨g26, 1, none⟩ = some (.int .u32 kq.epoch) ∧ w'.cell? ⟨g26, 2, none⟩ = some (.int .u32 kq.life) ∧ w'.cell? ⟨g26, 3, none⟩ = some (.int .u32 (kq.seq : Int)) ∧ w'.cell? ⟨g26, 4, none⟩ = some (.int .u32 (kq.ack : Int)) ∧ w'.cell? ⟨g26, 5, none⟩ = some (.bool kq.plain) ∧ w'.cell? ⟨g26, 6, none⟩ = some (.slice va kq.data.length vc)) [5] (i := 4) (v := ?_) rfl (by kernel_rfl) (by kernel_rfl) (by kernel_rfl) (fun _ _ _ h => h) (by kernel_rfl) (fun L u hd h => h (5, (fun w' => w'.cell? ⟨g26, 0, none⟩ = some (.int .u8 kq.node) ∧ w'.cell? ⟨g26, 1, none⟩ = some (.int .u32 kq.epoch) ∧ w'.cell? ⟨g26, 2, none⟩ = some (.int .u32 kq.life) ∧ w'.cell? ⟨g26, 3, none⟩ = some (.int .u32 (kq.seq : Int)) ∧ w'.cell? ⟨g26, 4, none⟩ = some (.int .u32 (kq.ack : Int)) ∧ w'.cell? ⟨g26, 5, none⟩ = some (.bool kq.plain) ∧ w'.cell? ⟨g26, 6, none⟩ = some (.slice va kq.data.length vc))) (by simp) (hd 5 (by simp))) (by kernel_rfl) (by kernel_rfl) (Or.inl ⟨by rfl, ?_⟩) (HUN.out _ _ HGwd.out) (fun HU => ?_)
              rotate_left
              · intro u hSw
                try dsimp only at hSw
                obtain ⟨s0, s1, s2, s3, s4, s5, s6⟩ := hSw
                go_simp
                try (with_reducible rfl)
              clear HU
              try simp only [Act.put, List.getElem_toArray, List.getElem_cons_succ, List.getElem_cons_zero, List.setIfInBounds_toArray, List.set_cons_zero, List.set_cons_succ]
              refine Orders.one (i := 2) (by kernel_rfl) rfl (fun K hK => ?_)
              go_simp
              refine (mine_any w.heap.size b s kq va kq.data.length vc wd HA12wd.out).mono ?_
              rintro e we ⟨rfl, hb⟩
              have HBxwe := hid hb
              have HGwe := hid ((hb.block g26 (Array.getElem?_eq_some_iff.1 HGwd.out).1).trans HGwd.out)
              have HA12we := hid (HA12wd.out.below hb)
              have HR12we := hid (HR12wd.out.below hb)
              clear hb
              refine hK.out _ _ (HUN.out _ _ HGwe.out) (fun HU => ?_)
              clear hK K HU
              try simp only [Act.put, List.getElem_toArray, List.getElem_cons_succ, List.getElem_cons_zero, List.setIfInBounds_toArray, List.set_cons_zero, List.set_cons_succ]
              refine Orders.one (i := 5) (by kernel_rfl) rfl (fun K hK => ?_)
              go_simp
              refine (refmine_any w.heap.size rb s kq va kq.data.length vc we HR12we.out HAK.out).mono ?_
              rintro e wf ⟨rfl, hb⟩
              have HBxwf := hid hb
              have HGwf := hid ((hb.block g26 (Array.getElem?_eq_some_iff.1 HGwe.out).1).trans HGwe.out)
              have HA12wf := hid (HA12we.out.below hb)
              have HR12wf := hid (HR12we.out.below hb)
              clear hb
              refine hK.out _ _ (HUN.out _ _ HGwf.out) (fun HU => ?_)
              clear hK K HU
              try simp only [Act.put, List.getElem_toArray, List.getElem_cons_succ, List.getElem_cons_zero, List.setIfInBounds_toArray, List.set_cons_zero, List.set_cons_succ]
              refine Orders.take (fun _ => True) [] (i := 6) (v := ?_) rfl (by kernel_rfl) (by kernel_rfl) (by kernel_rfl) (fun _ _ _ h => h) (by kernel_rfl) (fun _ _ _ _ => trivial) (by kernel_rfl) (by kernel_rfl) (Or.inl ⟨by rfl, ?_⟩) (HUN.out _ _ HGwf.out) (fun HU => ?_)
              rotate_left
              · intro u hSw
                try dsimp only at hSw
                go_simp
                try (with_reducible rfl)
              clear HU
              try simp only [Act.put, List.getElem_toArray, List.getElem_cons_succ, List.getElem_cons_zero, List.setIfInBounds_toArray, List.set_cons_zero, List.set_cons_succ]
              refine Orders.ends (by kernel_rfl) ?_ _
              obtain ⟨w5, hw5⟩ : ∃ w5, w5 = wf := ⟨_, rfl⟩
              rw [← hw5]
              have hcb : Below w4.heap.size w4 w5 := by rw [hw5]; exact HB4d.out.trans ((HBxwe.out.trans (HBxwf.out.mono HBxwe.out.size)).mono HB4d.out.size)
              clear hw5 HUN
              have HB5 := hid hcb
              have HA5 := hid (HA4.out.below hcb)
              have HR5 := hid (HR4.out.below hcb)
              have HB5w := hid (HB4w.out.trans (hcb.mono HB4w.out.size))
              have DV5 := hid (DV4.out.below hcb)
              have HGX5 := hid ((hcb.block gx (Array.getElem?_eq_some_iff.1 HGX4.out).1).trans HGX4.out)
              have HG265 := hid ((hcb.block g26 (Array.getElem?_eq_some_iff.1 HG26.out).1).trans HG26.out)
              have hs5w : w.heap.size ≤ w5.heap.size := HB5w.out.size
              have HLEN := hid (show kq.data.length ≤ 1000000 by have := HCK.out.len; omega)
              have HHD := hid (show s.heard < 1000000 by have h1 := HST.out; have h2 := HK80.out; omega)
              clear hcb
              go_wp2_with (first | (refine pk_ld rfl (.tmp 26) rfl g26 rfl _ _ _ _ _ _ _ HG265.out ?_) | fail)
              refine (hear_any w.heap.size b s kq va vc w5 HA5.out hs5w (Far.of_own DV5.out) HLEN.out HHD.out).mono ?_
              rintro e w6 ⟨x1, c1, x2, c2, rfl, o1, o2, h6, k6⟩
              have D16 := hid o1
              have D26 := hid o2
              have HA6 := hid h6
              have HR6 := hid (HR5.out.kt k6.kt (by decide) (by decide) (by decide) (by decide))
              have HB6w := hid (HB5w.out.trans k6.below)
              have DV6 := hid (DV5.out.kt k6.kt (by decide))
              have HGX6 := hid (k6.kt.block HGX5.out (by decide))
              have HG266 := hid (k6.kt.block HG265.out (by decide))
              clear o1 o2 h6 k6
              dsimp only
              go_wp2_with (first
                | (refine pk_fresh rfl (.tmp 29) (.tmp 82) rfl w6 _ _ _ _ _ _ _ rfl rfl (by simp [Value.oneCell']) ?_; intro w7 hg7 hb7
                   have HG29' := hid hg7
                   have HB7 := hid hb7
                   have HGX7 := hid ((hb7.block gx (Array.getElem?_eq_some_iff.1 HGX6.out).1).trans HGX6.out)
                   have HRX7 := hid (show w7.rangeAt gx 2 [.int .u8 kq.node, .int .u32 kq.epoch, .int .u32 kq.life, .int .u32 (kq.seq : Int), .int .u32 (kq.ack : Int), .bool kq.plain, .slice A2 L2 C2] from fun i v hv => by
                    have hi : i < 7 := by have := (List.getElem?_eq_some_iff.1 hv).1; simpa using this
                    rw [cell_of_row _ _ _ _ _ _ HGX7.out]
                    match i, hi, hv with
                    | 0, _, hv => exact hv
                    | 1, _, hv => exact hv
                    | 2, _, hv => exact hv
                    | 3, _, hv => exact hv
                    | 4, _, hv => exact hv
                    | 5, _, hv => exact hv
                    | 6, _, hv => exact hv)
                   clear hg7 hb7)
                | (refine wpList_load_mid rfl 31 (.tmp 86) rfl gx 2 rfl _ _ HRX7.out Try.underlying31 rfl (by rw [size_packet]; rfl) ?_)
                | (go_at_call 18; refine (few_any kq A2 L2 C2 w7 HCK.out.min HCK.out.l1 HCK.out.l2 HCK.out.l3 HCK.out.l4 HCK.out.len (HCK.out.rd.below (HB6w.out.trans (HB7.out.mono HB6w.out.size)))).mono ?_; rintro e w8 ⟨vb, vd, rfl, ho8, hb8⟩
                   have DB8 := hid ho8
                   have HB8 := hid hb8
                   clear ho8 hb8)
                | fail)
              obtain ⟨g29, hg29⟩ : ∃ g29, g29 = w6.heap.size := ⟨_, rfl⟩
              rw [← hg29] at HG29'
              rw [← hg29]
              have HG297 := hid HG29'.out
              clear hg29 HG29'
              have HB8w := hid ((HB6w.out.trans (HB7.out.mono HB6w.out.size)).trans (HB8.out.mono (Nat.le_trans HB6w.out.size HB7.out.size)))
              have HA8 := hid ((HA6.out.below HB7.out).below HB8.out)
              have HR8 := hid ((HR6.out.below HB7.out).below HB8.out)
              have DV8 := hid ((DV6.out.below HB7.out).below HB8.out)
              have D18 := hid ((D16.out.below HB7.out).below HB8.out)
              have D28 := hid ((D26.out.below HB7.out).below HB8.out)
              have HGX8 := hid ((HB8.out.block gx (Array.getElem?_eq_some_iff.1 HGX7.out).1).trans HGX7.out)
              have HG268 := hid ((HB8.out.block g26 (Nat.lt_of_lt_of_le (Array.getElem?_eq_some_iff.1 HG266.out).1 HB7.out.size)).trans ((HB7.out.block g26 (Array.getElem?_eq_some_iff.1 HG266.out).1).trans HG266.out))
              have HG298 := hid ((HB8.out.block g29 (Array.getElem?_eq_some_iff.1 HG297.out).1).trans HG297.out)
              refine (refhear_any w.heap.size rb s kq vb vd w8 HR8.out HB8w.out.size (Far.of_own DB8.out) HLEN.out HHD.out HAK.out HSQ.out).mono ?_
              rintro e wh ⟨x3, c3, x4, c4, rfl, o3, o4, hh, kh⟩
              have D3h := hid o3
              have D4h := hid o4
              have HRh := hid hh
              have HAh := hid (HA8.out.kt kh (by decide) (by decide) (by decide))
              have HBhw := hid (HB8w.out.trans kh.below)
              have DVh := hid (DV8.out.kt kh (by decide))
              have D1h := hid (D18.out.kt kh (by decide))
              have D2h := hid (D28.out.kt kh (by decide))
              have HGXh := hid (kh.block HGX8.out (by decide))
              have HG26h := hid (kh.block HG268.out (by decide))
              have HG29h := hid (kh.block HG298.out (by decide))
              clear o3 o4 hh kh
              dsimp only
              go_upto_region 16 with (first
                | (refine pk_fresh rfl (.tmp 33) (.tmp 92) rfl wh _ _ _ _ _ _ _ rfl rfl (by simp [Value.oneCell']) ?_; intro w9 hg9 hb9
                   have HG33' := hid hg9
                   have HBh9 := hid hb9
                   clear hg9 hb9)
                | fail)
              obtain ⟨g33, hg33⟩ : ∃ g33, g33 = wh.heap.size := ⟨_, rfl⟩
              rw [← hg33] at HG33'
              rw [← hg33]
              have HG33w9 := hid HG33'.out
              clear hg33 HG33'
              have HB9 := hid (HBhw.out.trans (HBh9.out.mono HBhw.out.size))
              have HA9 := hid (HAh.out.below HBh9.out)
              have HR9 := hid (HRh.out.below HBh9.out)
              have DV := hid (DVh.out.below HBh9.out)
              have D1 := hid (D1h.out.below HBh9.out)
              have D2 := hid (D2h.out.below HBh9.out)
              have D3 := hid (D3h.out.below HBh9.out)
              have D4 := hid (D4h.out.below HBh9.out)
              have HGXw9 := hid ((HBh9.out.block gx (Array.getElem?_eq_some_iff.1 HGXh.out).1).trans HGXh.out)
              have HG26w9 := hid ((HBh9.out.block g26 (Array.getElem?_eq_some_iff.1 HG26h.out).1).trans HG26h.out)
              have HG29w9 := hid ((HBh9.out.block g29 (Array.getElem?_eq_some_iff.1 HG29h.out).1).trans HG29h.out)
              have HBBw9 := hid (Below.refl w9.heap.size w9)
              clear HGX
              have HUN := hid (show ∀ (W : World) (Lb : Array Bool), W.heap[g29]? = some (.cells #[.int .u8 (s.ans kq).node, .int .u32 (s.ans kq).epoch, .int .u32 (s.ans kq).life, .int .u32 ((s.ans kq).seq : Int), .int .u32 ((s.ans kq).ack : Int), .bool (s.ans kq).plain, .slice x2 (s.ans kq).data.length c2] 31 (0, 0)) → W.heap[g33]? = some (.cells #[.int .u8 (s.ans kq).node, .int .u32 (s.ans kq).epoch, .int .u32 (s.ans kq).life, .int .u32 ((s.ans kq).seq : Int), .int .u32 ((s.ans kq).ack : Int), .bool (s.ans kq).plain, .slice x4 (s.ans kq).data.length c4] 31 (0, 0)) → W.heap[g26]? = some (.cells #[.int .u8 kq.node, .int .u32 kq.epoch, .int .u32 kq.life, .int .u32 (kq.seq : Int), .int .u32 (kq.ack : Int), .bool kq.plain, .slice va kq.data.length vc] 31 (0, 0)) → W.heap[gx]? = some (.cells #[.int .u8 (d : Int), .slice A L C, .int .u8 kq.node, .int .u32 kq.epoch, .int .u32 kq.life, .int .u32 (kq.seq : Int), .int .u32 (kq.ack : Int), .bool kq.plain, .slice A2 L2 C2] 33 (0, 0)) → UntilAll [(12, (fun w' => w'.cell? ⟨g29, 0, none⟩ = some (.int .u8 (s.ans kq).node) ∧ w'.cell? ⟨g29, 1, none⟩ = some (.int .u32 (s.ans kq).epoch) ∧ w'.cell? ⟨g29, 2, none⟩ = some (.int .u32 (s.ans kq).life) ∧ w'.cell? ⟨g29, 3, none⟩ = some (.int .u32 ((s.ans kq).seq : Int)) ∧ w'.cell? ⟨g29, 4, none⟩ = some (.int .u32 ((s.ans kq).ack : Int)) ∧ w'.cell? ⟨g29, 5, none⟩ = some (.bool (s.ans kq).plain) ∧ w'.cell? ⟨g29, 6, none⟩ = some (.slice x2 (s.ans kq).data.length c2))), (12, (fun w' => w'.cell? ⟨g33, 0, none⟩ = some (.int .u8 (s.ans kq).node) ∧ w'.cell? ⟨g33, 1, none⟩ = some (.int .u32 (s.ans kq).epoch) ∧ w'.cell? ⟨g33, 2, none⟩ = some (.int .u32 (s.ans kq).life) ∧ w'.cell? ⟨g33, 3, none⟩ = some (.int .u32 ((s.ans kq).seq : Int)) ∧ w'.cell? ⟨g33, 4, none⟩ = some (.int .u32 ((s.ans kq).ack : Int)) ∧ w'.cell? ⟨g33, 5, none⟩ = some (.bool (s.ans kq).plain) ∧ w'.cell? ⟨g33, 6, none⟩ = some (.slice x4 (s.ans kq).data.length c4))), (25, (fun w' => w'.cell? ⟨g26, 0, none⟩ = some (.int .u8 kq.node) ∧ w'.cell? ⟨g26, 1, none⟩ = some (.int .u32 kq.epoch) ∧ w'.cell? ⟨g26, 2, none⟩ = some (.int .u32 kq.life) ∧ w'.cell? ⟨g26, 3, none⟩ = some (.int .u32 (kq.seq : Int)) ∧ w'.cell? ⟨g26, 4, none⟩ = some (.int .u32 (kq.ack : Int)) ∧ w'.cell? ⟨g26, 5, none⟩ = some (.bool kq.plain) ∧ w'.cell? ⟨g26, 6, none⟩ = some (.slice va kq.data.length vc))), (24, (fun w' => w'.cell? ⟨gx, 2, none⟩ = some (.int .u8 kq.node) ∧ w'.cell? ⟨gx, 3, none⟩ = some (.int .u32 kq.epoch) ∧ w'.cell? ⟨gx, 4, none⟩ = some (.int .u32 kq.life) ∧ w'.cell? ⟨gx, 5, none⟩ = some (.int .u32 (kq.seq : Int)) ∧ w'.cell? ⟨gx, 6, none⟩ = some (.int .u32 (kq.ack : Int)) ∧ w'.cell? ⟨gx, 7, none⟩ = some (.bool kq.plain) ∧ w'.cell? ⟨gx, 8, none⟩ = some (.slice A2 L2 C2)))] Lb W from by
                intro W Lb h1 h2 h3 h4 c hc _
                simp only [List.mem_cons, List.not_mem_nil, or_false] at hc
                rcases hc with rfl | rfl | rfl | rfl
                · refine ⟨?_, ?_, ?_, ?_, ?_, ?_, ?_⟩ <;> exact (cell_of_row _ _ _ _ _ _ h1).trans rfl
                · refine ⟨?_, ?_, ?_, ?_, ?_, ?_, ?_⟩ <;> exact (cell_of_row _ _ _ _ _ _ h2).trans rfl
                · refine ⟨?_, ?_, ?_, ?_, ?_, ?_, ?_⟩ <;> exact (cell_of_row _ _ _ _ _ _ h3).trans rfl
                · refine ⟨?_, ?_, ?_, ?_, ?_, ?_, ?_⟩ <;> exact (cell_of_row _ _ _ _ _ _ h4).trans rfl)
              obtain ⟨wd, hwd⟩ : ∃ wd, wd = w9.drew := ⟨_, rfl⟩
              have hb : Below w9.heap.size w9 wd := by rw [hwd]; exact below_dr (Below.refl _ _)
              have HBxwd := hid hb
              have HG29wd := hid ((hb.block g29 (Array.getElem?_eq_some_iff.1 HG29w9.out).1).trans HG29w9.out)
              have HG33wd := hid ((hb.block g33 (Array.getElem?_eq_some_iff.1 HG33w9.out).1).trans HG33w9.out)
              have HG26wd := hid ((hb.block g26 (Array.getElem?_eq_some_iff.1 HG26w9.out).1).trans HG26w9.out)
              have HGXwd := hid ((hb.block gx (Array.getElem?_eq_some_iff.1 HGXw9.out).1).trans HGXw9.out)
              have HBBwd := hid (HBBw9.out.trans (hb.mono HBBw9.out.size))
              clear hb
              refine Orders.begins (C := [(12, (fun w' => w'.cell? ⟨g29, 0, none⟩ = some (.int .u8 (s.ans kq).node) ∧ w'.cell? ⟨g29, 1, none⟩ = some (.int .u32 (s.ans kq).epoch) ∧ w'.cell? ⟨g29, 2, none⟩ = some (.int .u32 (s.ans kq).life) ∧ w'.cell? ⟨g29, 3, none⟩ = some (.int .u32 ((s.ans kq).seq : Int)) ∧ w'.cell? ⟨g29, 4, none⟩ = some (.int .u32 ((s.ans kq).ack : Int)) ∧ w'.cell? ⟨g29, 5, none⟩ = some (.bool (s.ans kq).plain) ∧ w'.cell? ⟨g29, 6, none⟩ = some (.slice x2 (s.ans kq).data.length c2))), (12, (fun w' => w'.cell? ⟨g33, 0, none⟩ = some (.int .u8 (s.ans kq).node) ∧ w'.cell? ⟨g33, 1, none⟩ = some (.int .u32 (s.ans kq).epoch) ∧ w'.cell? ⟨g33, 2, none⟩ = some (.int .u32 (s.ans kq).life) ∧ w'.cell? ⟨g33, 3, none⟩ = some (.int .u32 ((s.ans kq).seq : Int)) ∧ w'.cell? ⟨g33, 4, none⟩ = some (.int .u32 ((s.ans kq).ack : Int)) ∧ w'.cell? ⟨g33, 5, none⟩ = some (.bool (s.ans kq).plain) ∧ w'.cell? ⟨g33, 6, none⟩ = some (.slice x4 (s.ans kq).data.length c4))), (25, (fun w' => w'.cell? ⟨g26, 0, none⟩ = some (.int .u8 kq.node) ∧ w'.cell? ⟨g26, 1, none⟩ = some (.int .u32 kq.epoch) ∧ w'.cell? ⟨g26, 2, none⟩ = some (.int .u32 kq.life) ∧ w'.cell? ⟨g26, 3, none⟩ = some (.int .u32 (kq.seq : Int)) ∧ w'.cell? ⟨g26, 4, none⟩ = some (.int .u32 (kq.ack : Int)) ∧ w'.cell? ⟨g26, 5, none⟩ = some (.bool kq.plain) ∧ w'.cell? ⟨g26, 6, none⟩ = some (.slice va kq.data.length vc))), (24, (fun w' => w'.cell? ⟨gx, 2, none⟩ = some (.int .u8 kq.node) ∧ w'.cell? ⟨gx, 3, none⟩ = some (.int .u32 kq.epoch) ∧ w'.cell? ⟨gx, 4, none⟩ = some (.int .u32 kq.life) ∧ w'.cell? ⟨gx, 5, none⟩ = some (.int .u32 (kq.seq : Int)) ∧ w'.cell? ⟨gx, 6, none⟩ = some (.int .u32 (kq.ack : Int)) ∧ w'.cell? ⟨gx, 7, none⟩ = some (.bool kq.plain) ∧ w'.cell? ⟨gx, 8, none⟩ = some (.slice A2 L2 C2)))]) (by kernel_rfl) ?_
              rw [← hwd]
              clear hwd
              refine Orders.take (fun _ => True) [] (i := 0) (v := ?_) rfl (by kernel_rfl) (by kernel_rfl) (by kernel_rfl) (fun _ _ _ h => h) (by kernel_rfl) (fun _ _ _ _ => trivial) (by kernel_rfl) (by kernel_rfl) (Or.inl ⟨by rfl, ?_⟩) (HUN.out _ _ HG29wd.out HG33wd.out HG26wd.out HGXwd.out) (fun HU => ?_)
              rotate_left
              · intro u hSw
                try dsimp only at hSw
                go_simp
                try (with_reducible rfl)
              clear HU
              try simp only [Act.put, List.getElem_toArray, List.getElem_cons_succ, List.getElem_cons_zero, List.setIfInBounds_toArray, List.set_cons_zero, List.set_cons_succ]
              refine Orders.take (fun _ => True) [] (i := 1) (v := ?_) rfl (by kernel_rfl) (by kernel_rfl) (by kernel_rfl) (fun _ _ _ h => h) (by kernel_rfl) (fun _ _ _ _ => trivial) (by kernel_rfl) (by kernel_rfl) (Or.inl ⟨by rfl, ?_⟩) (HUN.out _ _ HG29wd.out HG33wd.out HG26wd.out HGXwd.out) (fun HU => ?_)
              rotate_left
              · intro u hSw
                try dsimp only at hSw
                go_simp
                try (with_reducible rfl)
              clear HU
              try simp only [Act.put, List.getElem_toArray, List.getElem_cons_succ, List.getElem_cons_zero, List.setIfInBounds_toArray, List.set_cons_zero, List.set_cons_succ]
              refine Orders.one (i := 2) (by kernel_rfl) rfl (fun K hK => ?_)
              go_simp
              refine (same_eq _ _ (s.gets kq) wd (D1.out.below HBBwd.out).rd (D3.out.below HBBwd.out).rd).mono ?_
              rintro e w' ⟨rfl, rfl⟩
              refine hK.out _ _ (HUN.out _ _ HG29wd.out HG33wd.out HG26wd.out HGXwd.out) (fun HU => ?_)
              clear hK K HU
              try simp only [Act.put, List.getElem_toArray, List.getElem_cons_succ, List.getElem_cons_zero, List.setIfInBounds_toArray, List.set_cons_zero, List.set_cons_succ]
              refine Orders.take (fun _ => True) [] (i := 3) (v := ?_) rfl (by kernel_rfl) (by kernel_rfl) (by kernel_rfl) (fun _ _ _ h => h) (by kernel_rfl) (fun _ _ _ _ => trivial) (by kernel_rfl) (by kernel_rfl) (Or.inl ⟨by rfl, ?_⟩) (HUN.out _ _ HG29wd.out HG33wd.out HG26wd.out HGXwd.out) (fun HU => ?_)
              rotate_left
              · intro u hSw
                try dsimp only at hSw
                go_simp
                try (with_reducible rfl)
              clear HU
              try simp only [Act.put, List.getElem_toArray, List.getElem_cons_succ, List.getElem_cons_zero, List.setIfInBounds_toArray, List.set_cons_zero, List.set_cons_succ]
              refine Orders.take (fun _ => True) [] (i := 4) (v := ?_) rfl (by kernel_rfl) (by kernel_rfl) (by kernel_rfl) (fun _ _ _ h => h) (by kernel_rfl) (fun _ _ _ _ => trivial) (by kernel_rfl) (by kernel_rfl) (Or.inl ⟨by rfl, ?_⟩) (HUN.out _ _ HG29wd.out HG33wd.out HG26wd.out HGXwd.out) (fun HU => ?_)
              rotate_left
              · intro u hSw
                try dsimp only at hSw
                go_simp
                try (with_reducible rfl)
              clear HU
              try simp only [Act.put, List.getElem_toArray, List.getElem_cons_succ, List.getElem_cons_zero, List.setIfInBounds_toArray, List.set_cons_zero, List.set_cons_succ]
              refine Orders.take (fun _ => True) [] (i := 5) (v := ?_) rfl (by kernel_rfl) (by kernel_rfl) (by kernel_rfl) (fun _ _ _ h => h) (by kernel_rfl) (fun _ _ _ _ => trivial) (by kernel_rfl) (by kernel_rfl) (Or.inl ⟨by rfl, ?_⟩) (HUN.out _ _ HG29wd.out HG33wd.out HG26wd.out HGXwd.out) (fun HU => ?_)
              rotate_left
              · intro u hSw
                try dsimp only at hSw
                go_simp
                try (with_reducible rfl)
              clear HU
              try simp only [Act.put, List.getElem_toArray, List.getElem_cons_succ, List.getElem_cons_zero, List.setIfInBounds_toArray, List.set_cons_zero, List.set_cons_succ]
              refine Orders.take (fun _ => True) [] (i := 6) (v := ?_) rfl (by kernel_rfl) (by kernel_rfl) (by kernel_rfl) (fun _ _ _ h => h) (by kernel_rfl) (fun _ _ _ _ => trivial) (by kernel_rfl) (by kernel_rfl) (Or.inl ⟨by rfl, ?_⟩) (HUN.out _ _ HG29wd.out HG33wd.out HG26wd.out HGXwd.out) (fun HU => ?_)
              rotate_left
              · intro u hSw
                try dsimp only at hSw
                go_simp
                try (with_reducible rfl)
              clear HU
              try simp only [Act.put, List.getElem_toArray, List.getElem_cons_succ, List.getElem_cons_zero, List.setIfInBounds_toArray, List.set_cons_zero, List.set_cons_succ]
              refine Orders.take (fun _ => True) [] (i := 7) (v := ?_) rfl (by kernel_rfl) (by kernel_rfl) (by kernel_rfl) (fun _ _ _ h => h) (by kernel_rfl) (fun _ _ _ _ => trivial) (by kernel_rfl) (by kernel_rfl) (Or.inl ⟨by rfl, ?_⟩) (HUN.out _ _ HG29wd.out HG33wd.out HG26wd.out HGXwd.out) (fun HU => ?_)
              rotate_left
              · intro u hSw
                try dsimp only at hSw
                go_simp
                try (with_reducible rfl)
              clear HU
              try simp only [Act.put, List.getElem_toArray, List.getElem_cons_succ, List.getElem_cons_zero, List.setIfInBounds_toArray, List.set_cons_zero, List.set_cons_succ]
              refine Orders.take (fun _ => True) [] (i := 8) (v := ?_) rfl (by kernel_rfl) (by kernel_rfl) (by kernel_rfl) (fun _ _ _ h => h) (by kernel_rfl) (fun _ _ _ _ => trivial) (by kernel_rfl) (by kernel_rfl) (Or.inl ⟨by rfl, ?_⟩) (HUN.out _ _ HG29wd.out HG33wd.out HG26wd.out HGXwd.out) (fun HU => ?_)
              rotate_left
              · intro u hSw
                try dsimp only at hSw
                go_simp
                try (with_reducible rfl)
              clear HU
              try simp only [Act.put, List.getElem_toArray, List.getElem_cons_succ, List.getElem_cons_zero, List.setIfInBounds_toArray, List.set_cons_zero, List.set_cons_succ]
              refine Orders.take (fun _ => True) [] (i := 9) (v := ?_) rfl (by kernel_rfl) (by kernel_rfl) (by kernel_rfl) (fun _ _ _ h => h) (by kernel_rfl) (fun _ _ _ _ => trivial) (by kernel_rfl) (by kernel_rfl) (Or.inl ⟨by rfl, ?_⟩) (HUN.out _ _ HG29wd.out HG33wd.out HG26wd.out HGXwd.out) (fun HU => ?_)
              rotate_left
              · intro u hSw
                try dsimp only at hSw
                go_simp
                try (with_reducible rfl)
              clear HU
              try simp only [Act.put, List.getElem_toArray, List.getElem_cons_succ, List.getElem_cons_zero, List.setIfInBounds_toArray, List.set_cons_zero, List.set_cons_succ]
              refine Orders.take (fun w' => w'.cell? ⟨g29, 0, none⟩ = some (.int .u8 (s.ans kq).node) ∧ w'.cell? ⟨g29, 1, none⟩ = some (.int .u32 (s.ans kq).epoch) ∧ w'.cell? ⟨g29, 2, none⟩ = some (.int .u32 (s.ans kq).life) ∧ w'.cell? ⟨g29, 3, none⟩ = some (.int .u32 ((s.ans kq).seq : Int)) ∧ w'.cell? ⟨g29, 4, none⟩ = some (.int .u32 ((s.ans kq).ack : Int)) ∧ w'.cell? ⟨g29, 5, none⟩ = some (.bool (s.ans kq).plain) ∧ w'.cell? ⟨g29, 6, none⟩ = some (.slice x2 (s.ans kq).data.length c2)) [12] (i := 10) (v := ?_) rfl (by kernel_rfl) (by kernel_rfl) (by kernel_rfl) (fun _ _ _ h => h) (by kernel_rfl) (fun L u hd h => h (12, (fun w' => w'.cell? ⟨g29, 0, none⟩ = some (.int .u8 (s.ans kq).node) ∧ w'.cell? ⟨g29, 1, none⟩ = some (.int .u32 (s.ans kq).epoch) ∧ w'.cell? ⟨g29, 2, none⟩ = some (.int .u32 (s.ans kq).life) ∧ w'.cell? ⟨g29, 3, none⟩ = some (.int .u32 ((s.ans kq).seq : Int)) ∧ w'.cell? ⟨g29, 4, none⟩ = some (.int .u32 ((s.ans kq).ack : Int)) ∧ w'.cell? ⟨g29, 5, none⟩ = some (.bool (s.ans kq).plain) ∧ w'.cell? ⟨g29, 6, none⟩ = some (.slice x2 (s.ans kq).data.length c2))) (by simp) (hd 12 (by simp))) (by kernel_rfl) (by kernel_rfl) (Or.inl ⟨by rfl, ?_⟩) (HUN.out _ _ HG29wd.out HG33wd.out HG26wd.out HGXwd.out) (fun HU => ?_)
              rotate_left
              · intro u hSw
                try dsimp only at hSw
                obtain ⟨s0, s1, s2, s3, s4, s5, s6⟩ := hSw
                go_simp
                try (with_reducible rfl)
              clear HU
              try simp only [Act.put, List.getElem_toArray, List.getElem_cons_succ, List.getElem_cons_zero, List.setIfInBounds_toArray, List.set_cons_zero, List.set_cons_succ]
              refine Orders.take (fun w' => w'.cell? ⟨g33, 0, none⟩ = some (.int .u8 (s.ans kq).node) ∧ w'.cell? ⟨g33, 1, none⟩ = some (.int .u32 (s.ans kq).epoch) ∧ w'.cell? ⟨g33, 2, none⟩ = some (.int .u32 (s.ans kq).life) ∧ w'.cell? ⟨g33, 3, none⟩ = some (.int .u32 ((s.ans kq).seq : Int)) ∧ w'.cell? ⟨g33, 4, none⟩ = some (.int .u32 ((s.ans kq).ack : Int)) ∧ w'.cell? ⟨g33, 5, none⟩ = some (.bool (s.ans kq).plain) ∧ w'.cell? ⟨g33, 6, none⟩ = some (.slice x4 (s.ans kq).data.length c4)) [12] (i := 11) (v := ?_) rfl (by kernel_rfl) (by kernel_rfl) (by kernel_rfl) (fun _ _ _ h => h) (by kernel_rfl) (fun L u hd h => h (12, (fun w' => w'.cell? ⟨g33, 0, none⟩ = some (.int .u8 (s.ans kq).node) ∧ w'.cell? ⟨g33, 1, none⟩ = some (.int .u32 (s.ans kq).epoch) ∧ w'.cell? ⟨g33, 2, none⟩ = some (.int .u32 (s.ans kq).life) ∧ w'.cell? ⟨g33, 3, none⟩ = some (.int .u32 ((s.ans kq).seq : Int)) ∧ w'.cell? ⟨g33, 4, none⟩ = some (.int .u32 ((s.ans kq).ack : Int)) ∧ w'.cell? ⟨g33, 5, none⟩ = some (.bool (s.ans kq).plain) ∧ w'.cell? ⟨g33, 6, none⟩ = some (.slice x4 (s.ans kq).data.length c4))) (by simp) (hd 12 (by simp))) (by kernel_rfl) (by kernel_rfl) (Or.inl ⟨by rfl, ?_⟩) (HUN.out _ _ HG29wd.out HG33wd.out HG26wd.out HGXwd.out) (fun HU => ?_)
              rotate_left
              · intro u hSw
                try dsimp only at hSw
                obtain ⟨s0, s1, s2, s3, s4, s5, s6⟩ := hSw
                go_simp
                try (with_reducible rfl)
              clear HU
              try simp only [Act.put, List.getElem_toArray, List.getElem_cons_succ, List.getElem_cons_zero, List.setIfInBounds_toArray, List.set_cons_zero, List.set_cons_succ]
              refine Orders.one (i := 12) (by kernel_rfl) rfl (fun K hK => ?_)
              go_simp
              refine (samepk_eq (s.ans kq) x2 x4 c2 c4 wd (D2.out.below HBBwd.out).rd (D4.out.below HBBwd.out).rd).mono ?_
              rintro e we ⟨rfl, hb⟩
              have HBxwe := hid hb
              have HG29we := hid ((hb.block g29 (Array.getElem?_eq_some_iff.1 HG29wd.out).1).trans HG29wd.out)
              have HG33we := hid ((hb.block g33 (Array.getElem?_eq_some_iff.1 HG33wd.out).1).trans HG33wd.out)
              have HG26we := hid ((hb.block g26 (Array.getElem?_eq_some_iff.1 HG26wd.out).1).trans HG26wd.out)
              have HGXwe := hid ((hb.block gx (Array.getElem?_eq_some_iff.1 HGXwd.out).1).trans HGXwd.out)
              have HBBwe := hid (HBBwd.out.trans (hb.mono HBBwd.out.size))
              clear hb
              refine hK.out _ _ (HUN.out _ _ HG29we.out HG33we.out HG26we.out HGXwe.out) (fun HU => ?_)
              clear hK K HU
              try simp only [Act.put, List.getElem_toArray, List.getElem_cons_succ, List.getElem_cons_zero, List.setIfInBounds_toArray, List.set_cons_zero, List.set_cons_succ]
              refine Orders.take (fun _ => True) [] (i := 13) (v := ?_) rfl (by kernel_rfl) (by kernel_rfl) (by kernel_rfl) (fun _ _ _ h => h) (by kernel_rfl) (fun _ _ _ _ => trivial) (by kernel_rfl) (by kernel_rfl) (Or.inl ⟨by rfl, ?_⟩) (HUN.out _ _ HG29we.out HG33we.out HG26we.out HGXwe.out) (fun HU => ?_)
              rotate_left
              · intro u hSw
                try dsimp only at hSw
                go_simp
                try (with_reducible rfl)
              clear HU
              try simp only [Act.put, List.getElem_toArray, List.getElem_cons_succ, List.getElem_cons_zero, List.setIfInBounds_toArray, List.set_cons_zero, List.set_cons_succ]
              refine Orders.take (fun _ => True) [] (i := 14) (v := ?_) rfl (by kernel_rfl) (by kernel_rfl) (by kernel_rfl) (fun _ _ _ h => h) (by kernel_rfl) (fun _ _ _ _ => trivial) (by kernel_rfl) (by kernel_rfl) (Or.inl ⟨by rfl, ?_⟩) (HUN.out _ _ HG29we.out HG33we.out HG26we.out HGXwe.out) (fun HU => ?_)
              rotate_left
              · intro u hSw
                try dsimp only at hSw
                go_simp
                try (with_reducible rfl)
              clear HU
              try simp only [Act.put, List.getElem_toArray, List.getElem_cons_succ, List.getElem_cons_zero, List.setIfInBounds_toArray, List.set_cons_zero, List.set_cons_succ]
              refine Orders.take (fun _ => True) [] (i := 15) (v := ?_) rfl (by kernel_rfl) (by kernel_rfl) (by kernel_rfl) (fun _ _ _ h => h) (by kernel_rfl) (fun _ _ _ _ => trivial) (by kernel_rfl) (by kernel_rfl) (Or.inl ⟨by rfl, ?_⟩) (HUN.out _ _ HG29we.out HG33we.out HG26we.out HGXwe.out) (fun HU => ?_)
              rotate_left
              · intro u hSw
                try dsimp only at hSw
                go_simp
                try (with_reducible rfl)
              clear HU
              try simp only [Act.put, List.getElem_toArray, List.getElem_cons_succ, List.getElem_cons_zero, List.setIfInBounds_toArray, List.set_cons_zero, List.set_cons_succ]
              refine Orders.take (fun _ => True) [] (i := 16) (v := ?_) rfl (by kernel_rfl) (by kernel_rfl) (by kernel_rfl) (fun _ _ _ h => h) (by kernel_rfl) (fun _ _ _ _ => trivial) (by kernel_rfl) (by kernel_rfl) (Or.inl ⟨by rfl, ?_⟩) (HUN.out _ _ HG29we.out HG33we.out HG26we.out HGXwe.out) (fun HU => ?_)
              rotate_left
              · intro u hSw
                try dsimp only at hSw
                go_simp
                try (with_reducible rfl)
              clear HU
              try simp only [Act.put, List.getElem_toArray, List.getElem_cons_succ, List.getElem_cons_zero, List.setIfInBounds_toArray, List.set_cons_zero, List.set_cons_succ]
              refine Orders.take (fun _ => True) [] (i := 17) (v := ?_) rfl (by kernel_rfl) (by kernel_rfl) (by kernel_rfl) (fun _ _ _ h => h) (by kernel_rfl) (fun _ _ _ _ => trivial) (by kernel_rfl) (by kernel_rfl) (Or.inl ⟨by rfl, ?_⟩) (HUN.out _ _ HG29we.out HG33we.out HG26we.out HGXwe.out) (fun HU => ?_)
              rotate_left
              · intro u hSw
                try dsimp only at hSw
                go_simp
                try (with_reducible rfl)
              clear HU
              try simp only [Act.put, List.getElem_toArray, List.getElem_cons_succ, List.getElem_cons_zero, List.setIfInBounds_toArray, List.set_cons_zero, List.set_cons_succ]
              refine Orders.take (fun _ => True) [] (i := 18) (v := ?_) rfl (by kernel_rfl) (by kernel_rfl) (by kernel_rfl) (fun _ _ _ h => h) (by kernel_rfl) (fun _ _ _ _ => trivial) (by kernel_rfl) (by kernel_rfl) (Or.inl ⟨by rfl, ?_⟩) (HUN.out _ _ HG29we.out HG33we.out HG26we.out HGXwe.out) (fun HU => ?_)
              rotate_left
              · intro u hSw
                try dsimp only at hSw
                go_simp
                try (with_reducible rfl)
              clear HU
              try simp only [Act.put, List.getElem_toArray, List.getElem_cons_succ, List.getElem_cons_zero, List.setIfInBounds_toArray, List.set_cons_zero, List.set_cons_succ]
              refine Orders.take (fun _ => True) [] (i := 19) (v := ?_) rfl (by kernel_rfl) (by kernel_rfl) (by kernel_rfl) (fun _ _ _ h => h) (by kernel_rfl) (fun _ _ _ _ => trivial) (by kernel_rfl) (by kernel_rfl) (Or.inl ⟨by rfl, ?_⟩) (HUN.out _ _ HG29we.out HG33we.out HG26we.out HGXwe.out) (fun HU => ?_)
              rotate_left
              · intro u hSw
                try dsimp only at hSw
                go_simp
                try (with_reducible rfl)
              clear HU
              try simp only [Act.put, List.getElem_toArray, List.getElem_cons_succ, List.getElem_cons_zero, List.setIfInBounds_toArray, List.set_cons_zero, List.set_cons_succ]
              refine Orders.take (fun _ => True) [] (i := 20) (v := ?_) rfl (by kernel_rfl) (by kernel_rfl) (by kernel_rfl) (fun _ _ _ h => h) (by kernel_rfl) (fun _ _ _ _ => trivial) (by kernel_rfl) (by kernel_rfl) (Or.inl ⟨by rfl, ?_⟩) (HUN.out _ _ HG29we.out HG33we.out HG26we.out HGXwe.out) (fun HU => ?_)
              rotate_left
              · intro u hSw
                try dsimp only at hSw
                go_simp
                try (with_reducible rfl)
              clear HU
              try simp only [Act.put, List.getElem_toArray, List.getElem_cons_succ, List.getElem_cons_zero, List.setIfInBounds_toArray, List.set_cons_zero, List.set_cons_succ]
              refine Orders.take (fun w' => w'.cell? ⟨g26, 0, none⟩ = some (.int .u8 kq.node) ∧ w'.cell? ⟨g26, 1, none⟩ = some (.int .u32 kq.epoch) ∧ w'.cell? ⟨g26, 2, none⟩ = some (.int .u32 kq.life) ∧ w'.cell? ⟨g26, 3, none⟩ = some (.int .u32 (kq.seq : Int)) ∧ w'.cell? ⟨g26, 4, none⟩ = some (.int .u32 (kq.ack : Int)) ∧ w'.cell? ⟨g26, 5, none⟩ = some (.bool kq.plain) ∧ w'.cell? ⟨g26, 6, none⟩ = some (.slice va kq.data.length vc)) [25] (i := 21) (v := ?_) rfl (by kernel_rfl) (by kernel_rfl) (by kernel_rfl) (fun _ _ _ h => h) (by kernel_rfl) (fun L u hd h => h (25, (fun w' => w'.cell? ⟨g26, 0, none⟩ = some (.int .u8 kq.node) ∧ w'.cell? ⟨g26, 1, none⟩ = some (.int .u32 kq.epoch) ∧ w'.cell? ⟨g26, 2, none⟩ = some (.int .u32 kq.life) ∧ w'.cell? ⟨g26, 3, none⟩ = some (.int .u32 (kq.seq : Int)) ∧ w'.cell? ⟨g26, 4, none⟩ = some (.int .u32 (kq.ack : Int)) ∧ w'.cell? ⟨g26, 5, none⟩ = some (.bool kq.plain) ∧ w'.cell? ⟨g26, 6, none⟩ = some (.slice va kq.data.length vc))) (by simp) (hd 25 (by simp))) (by kernel_rfl) (by kernel_rfl) (Or.inl ⟨by rfl, ?_⟩) (HUN.out _ _ HG29we.out HG33we.out HG26we.out HGXwe.out) (fun HU => ?_)
              rotate_left
              · intro u hSw
                try dsimp only at hSw
                obtain ⟨s0, s1, s2, s3, s4, s5, s6⟩ := hSw
                go_simp
                try (with_reducible rfl)
              clear HU
              try simp only [Act.put, List.getElem_toArray, List.getElem_cons_succ, List.getElem_cons_zero, List.setIfInBounds_toArray, List.set_cons_zero, List.set_cons_succ]
              refine Orders.take (fun _ => True) [] (i := 22) (v := ?_) rfl (by kernel_rfl) (by kernel_rfl) (by kernel_rfl) (fun _ _ _ h => h) (by kernel_rfl) (fun _ _ _ _ => trivial) (by kernel_rfl) (by kernel_rfl) (Or.inl ⟨by rfl, ?_⟩) (HUN.out _ _ HG29we.out HG33we.out HG26we.out HGXwe.out) (fun HU => ?_)
              rotate_left
              · intro u hSw
                try dsimp only at hSw
                go_simp
                try (with_reducible rfl)
              clear HU
              try simp only [Act.put, List.getElem_toArray, List.getElem_cons_succ, List.getElem_cons_zero, List.setIfInBounds_toArray, List.set_cons_zero, List.set_cons_succ]
              refine Orders.take (fun w' => w'.cell? ⟨gx, 2, none⟩ = some (.int .u8 kq.node) ∧ w'.cell? ⟨gx, 3, none⟩ = some (.int .u32 kq.epoch) ∧ w'.cell? ⟨gx, 4, none⟩ = some (.int .u32 kq.life) ∧ w'.cell? ⟨gx, 5, none⟩ = some (.int .u32 (kq.seq : Int)) ∧ w'.cell? ⟨gx, 6, none⟩ = some (.int .u32 (kq.ack : Int)) ∧ w'.cell? ⟨gx, 7, none⟩ = some (.bool kq.plain) ∧ w'.cell? ⟨gx, 8, none⟩ = some (.slice A2 L2 C2)) [24] (i := 23) (v := ?_) rfl (by kernel_rfl) (by kernel_rfl) (by kernel_rfl) (fun _ _ _ h => h) (by kernel_rfl) (fun L u hd h => h (24, (fun w' => w'.cell? ⟨gx, 2, none⟩ = some (.int .u8 kq.node) ∧ w'.cell? ⟨gx, 3, none⟩ = some (.int .u32 kq.epoch) ∧ w'.cell? ⟨gx, 4, none⟩ = some (.int .u32 kq.life) ∧ w'.cell? ⟨gx, 5, none⟩ = some (.int .u32 (kq.seq : Int)) ∧ w'.cell? ⟨gx, 6, none⟩ = some (.int .u32 (kq.ack : Int)) ∧ w'.cell? ⟨gx, 7, none⟩ = some (.bool kq.plain) ∧ w'.cell? ⟨gx, 8, none⟩ = some (.slice A2 L2 C2))) (by simp) (hd 24 (by simp))) (by kernel_rfl) (by kernel_rfl) (Or.inl ⟨by rfl, ?_⟩) (HUN.out _ _ HG29we.out HG33we.out HG26we.out HGXwe.out) (fun HU => ?_)
              rotate_left
              · intro u hSw
                try dsimp only at hSw
                obtain ⟨s0, s1, s2, s3, s4, s5, s6⟩ := hSw
                go_simp
                try (with_reducible rfl)
              clear HU
              try simp only [Act.put, List.getElem_toArray, List.getElem_cons_succ, List.getElem_cons_zero, List.setIfInBounds_toArray, List.set_cons_zero, List.set_cons_succ]
              refine Orders.one (i := 24) (by kernel_rfl) rfl (fun K hK => ?_)
              go_simp
              refine (few_any kq A2 L2 C2 we HCK.out.min HCK.out.l1 HCK.out.l2 HCK.out.l3 HCK.out.l4 HCK.out.len (HCK.out.rd.below (HB9.out.trans (HBBwe.out.mono HB9.out.size)))).mono ?_
              rintro e wf ⟨vz, vy, rfl, hoz, hb⟩
              have DZ := hid hoz
              clear hoz
              have HBxwf := hid hb
              have HG29wf := hid ((hb.block g29 (Array.getElem?_eq_some_iff.1 HG29we.out).1).trans HG29we.out)
              have HG33wf := hid ((hb.block g33 (Array.getElem?_eq_some_iff.1 HG33we.out).1).trans HG33we.out)
              have HG26wf := hid ((hb.block g26 (Array.getElem?_eq_some_iff.1 HG26we.out).1).trans HG26we.out)
              have HGXwf := hid ((hb.block gx (Array.getElem?_eq_some_iff.1 HGXwe.out).1).trans HGXwe.out)
              have HBBwf := hid (HBBwe.out.trans (hb.mono HBBwe.out.size))
              clear hb
              refine hK.out _ _ (HUN.out _ _ HG29wf.out HG33wf.out HG26wf.out HGXwf.out) (fun HU => ?_)
              clear hK K HU
              try simp only [Act.put, List.getElem_toArray, List.getElem_cons_succ, List.getElem_cons_zero, List.setIfInBounds_toArray, List.set_cons_zero, List.set_cons_succ]
              refine Orders.one (i := 25) (by kernel_rfl) rfl (fun K hK => ?_)
              go_simp
              refine (samepk_eq kq va vz vc vy wf (DV.out.below HBBwf.out).rd DZ.out.rd).mono ?_
              rintro e wg ⟨rfl, hb⟩
              have HBxwg := hid hb
              have HG29wg := hid ((hb.block g29 (Array.getElem?_eq_some_iff.1 HG29wf.out).1).trans HG29wf.out)
              have HG33wg := hid ((hb.block g33 (Array.getElem?_eq_some_iff.1 HG33wf.out).1).trans HG33wf.out)
              have HG26wg := hid ((hb.block g26 (Array.getElem?_eq_some_iff.1 HG26wf.out).1).trans HG26wf.out)
              have HGXwg := hid ((hb.block gx (Array.getElem?_eq_some_iff.1 HGXwf.out).1).trans HGXwf.out)
              have HBBwg := hid (HBBwf.out.trans (hb.mono HBBwf.out.size))
              clear hb
              refine hK.out _ _ (HUN.out _ _ HG29wg.out HG33wg.out HG26wg.out HGXwg.out) (fun HU => ?_)
              clear hK K HU
              try simp only [Act.put, List.getElem_toArray, List.getElem_cons_succ, List.getElem_cons_zero, List.setIfInBounds_toArray, List.set_cons_zero, List.set_cons_succ]
              refine Orders.take (fun _ => True) [] (i := 26) (v := ?_) rfl (by kernel_rfl) (by kernel_rfl) (by kernel_rfl) (fun _ _ _ h => h) (by kernel_rfl) (fun _ _ _ _ => trivial) (by kernel_rfl) (by kernel_rfl) (Or.inl ⟨by rfl, ?_⟩) (HUN.out _ _ HG29wg.out HG33wg.out HG26wg.out HGXwg.out) (fun HU => ?_)
              rotate_left
              · intro u hSw
                try dsimp only at hSw
                go_simp
                try (with_reducible rfl)
              clear HU
              try simp only [Act.put, List.getElem_toArray, List.getElem_cons_succ, List.getElem_cons_zero, List.setIfInBounds_toArray, List.set_cons_zero, List.set_cons_succ]
              refine Orders.take (fun _ => True) [] (i := 27) (v := ?_) rfl (by kernel_rfl) (by kernel_rfl) (by kernel_rfl) (fun _ _ _ h => h) (by kernel_rfl) (fun _ _ _ _ => trivial) (by kernel_rfl) (by kernel_rfl) (Or.inl ⟨by rfl, ?_⟩) (HUN.out _ _ HG29wg.out HG33wg.out HG26wg.out HGXwg.out) (fun HU => ?_)
              rotate_left
              · intro u hSw
                try dsimp only at hSw
                go_simp
                try (with_reducible rfl)
              clear HU
              try simp only [Act.put, List.getElem_toArray, List.getElem_cons_succ, List.getElem_cons_zero, List.setIfInBounds_toArray, List.set_cons_zero, List.set_cons_succ]
              refine Orders.ends (by kernel_rfl) ?_ _
              go_wp2_with fail
              go_meet
              case rel =>
                have hl := s.hear_len kq
                have h2 := HST.out
                exact ⟨s.hear kq, HA9.out.below HBBwg.out, HR9.out.below HBBwg.out, by omega, HB9.out.trans (HBBwg.out.mono HB9.out.size)⟩
        case rest =>
          obtain ⟨s', hA', hR', hst', hB'⟩ := hcut
          have HA' := hid hA'
          have HR' := hid hR'
          have HST' := hid hst'
          have HB' := hid hB'
          clear hA' hR' hst' hB'
          obtain ⟨sv, tv, PF, hh⟩ := HR'.out
          obtain ⟨⟨sa, sc, es, hsc1, hsc2⟩, _⟩ := hh.shapes
          subst es
          have HLL := hid s'.l_len
          have hok1 : s'.done ≤ s'.all.length := hh.ok.1
          have x3 := hh.cells.2.2.2.1
          have x6 := hh.cells.2.2.2.2.2.2.1
          have x7 := hh.cells.2.2.2.2.2.2.2.1
          have HWP := hid (show IntKind.i64.wrap ((s'.all.length : Int) - (s'.done : Int)) = (s'.all.length : Int) - (s'.done : Int) by have := hh.ok.2.1; rw [IntKind.wrap_i64]; omega)
          have hwp := HWP.out
          have HOP := hid (show ((s'.l.length : Nat) : Int) = (s'.all.length : Int) - (s'.done : Int) by have := HLL.out; omega)
          clear hh hsc1 hsc2 hok1
          go_wp2_with fail
          go_quiet (fail)
          clear x3 x6 x7
          obtain ⟨wq, hwq⟩ : ∃ wq, wq = wc.drewN nq := ⟨_, rfl⟩
          rw [← hwq]
          have HBq := hid (show Below wc.heap.size wc wq by rw [hwq]; exact below_behind (Below.refl _ _) _)
          have HAq := hid (HA'.out.below HBq.out)
          clear hwq
          go_wp2_with (first
            | (go_at_call 23; refine (open_any w.heap.size b s' wq HAq.out).mono ?_; rintro e wz ⟨rfl, rfl⟩; rw [HOP.out])
            | (go_at_call 24; refine (heard_any w.heap.size b s' wq HAq.out).mono ?_; rintro e wz ⟨rfl, rfl⟩)
            | fail)
          clear hwp
          go_roundw
          case rel => exact ⟨k + 1, s', HLT.out, HK80.out, by go_num, HAq.out, HR'.out.below HBq.out, HST'.out, HB'.out.trans (HBq.out.mono HB'.out.size)⟩
          case measure => have := HLT.out; simp [intOf]; omega
      · have h80i : (80 : Int) ≤ (k : Int) := by omega
        clear h80
        go_wp2_with (first
          | (refine wpList_load_mid rfl 33 (.tmp 53) rfl ob (off + k * 9) rfl _ _ HRG.out Try.underlying33 rfl (by rw [size_op10]; rfl) ?_)
          | (refine op_fresh rfl (.tmp 14) (.tmp 54) rfl wr #[.int .u8 (d : Int), .slice A L C, .int .u8 kq.node, .int .u32 kq.epoch, .int .u32 kq.life, .int .u32 (kq.seq : Int), .int .u32 (kq.ack : Int), .bool kq.plain, .slice A2 L2 C2] rfl rfl rfl (by simp [Value.oneCell']) ?_; intro wo hgo hbo; have HBO := hid hbo; clear hgo hbo)
          | fail)
        go_ret
        exact ⟨rfl, HB.out.trans (HBO.out.mono HB.out.size)⟩
    · obtain rfl : k = L0 := by omega
      go_wp2_with fail
      go_ret
      exact ⟨rfl, HB.out⟩

end Go.Proofs.Ytjpojlkdogaalaa
