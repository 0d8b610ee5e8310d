/-
  TalkPlays, in parts: there is none.
-/
import Derived.Test.YtjpojlkdogaalaaRows
import Derived.WalkKit
import Derived.Test.YtjpojlkdogaalaaPlayT
import Derived.ProofKit
import Derived.Deep.Cut
import Derived.Deep.CutRange
import Derived.Deep.CutBlock
import Derived.Deep.RegionWith
import Derived.Below
namespace Go.Proofs.Ytjpojlkdogaalaa
open Go.RowKit
set_option linter.unusedVariables false
set_option linter.unusedSimpArgs false

set_option maxRecDepth 100000 in
set_option maxHeartbeats 16000000 in
theorem plays10_nil (nd ep li : Int) (A0 : Option Addr) (L0 C0 : Nat) (w : World) (w4 : IsOps10 w A0 L0 C0) :
    Calls Try.prog 3 #[.int .u8 nd, .int .u32 ep, .int .u32 li, .bool true, .slice A0 L0 C0] w fun e w' => e = .returned (.bool true) ∧ Below w.heap.size w w' := by
  have HOPS := hid w4
  obtain ⟨ob1, ob2⟩ := w4.bounds
  clear w4
  go_enter Try.func3, Try.ntmps3
  go_wp2_with fail
  refine (awake10_any w).mono ?_
  rintro e wa ⟨rfl, hba⟩
  have HBA := hid hba
  have hsa := hba.size
  clear hba
  go_wp2_with fail
  refine (talknew_any nd ep li wa w.heap.size hsa).mono ?_
  rintro e w1 ⟨rfl, -, hb1⟩
  have hs1 := hb1.size
  have B1 := hid (HBA.out.trans (hb1.mono hsa))
  clear hb1
  go_wp2_with fail
  refine (refnew_any nd ep li w1 w.heap.size (show w.heap.size ≤ w1.heap.size by omega)).mono ?_
  rintro e w2 ⟨rfl, -, hb2⟩
  have B2 := hid (B1.out.trans (hb2.mono (by omega)))
  clear hb2
  go_wp2_with fail
  go_loopw [50] (fun i wr => ∃ (k : Nat), k ≤ L0 ∧ k ≤ 80 ∧ i = .int .i64 k ∧ Below w.heap.size w wr) (fun i _ => L0 - (intOf i).toNat)
  case atStart => exact ⟨0, by omega, by omega, rfl, B2.out⟩
  case round =>
    obtain ⟨k, hk1, hk2, rfl, hB⟩ := hrel
    have HB := hid hB
    have hsr := hB.size
    clear hB
    by_cases hlt : k < L0
    · obtain ⟨ob, off, eA, hob, d, A, L, C, t, kq, A2, L2, C2, hrg, hd, hct, hck, hsq, hak⟩ := HOPS.out.at k hlt
      subst eA
      have HRG := hid (show wr.rangeAt ob (off + k * 9) (ocells d A L C kq A2 L2 C2) from fun i v hv => (HB.out.cell (p := ⟨ob, off + k * 9 + i, none⟩) hob).trans (hrg i v hv))
      have HCT := hid hct
      have HCK := hid hck
      have HSQ := hid hsq
      have HAK := hid hak
      have hki : (k : Int) < (L0 : Int) := by omega
      clear hrg hct hck hsq hak
      by_cases h80 : k < 80
      · have h80i : (k : Int) < 80 := by omega
        have HK80 := hid h80
        have HLT := hid hlt
        clear h80 hk2 hk1 hlt
        go_upto_region 10 with (first
          | (refine wpList_load_mid rfl 33 (.tmp 53) rfl ob (off + k * 9) rfl _ _ HRG.out Try.underlying33 rfl (by rw [size_op10]; rfl) ?_)
          | (refine op_fresh rfl (.tmp 14) (.tmp 54) rfl wr #[.int .u8 (d : Int), .slice A L C, .int .u8 kq.node, .int .u32 kq.epoch, .int .u32 kq.life, .int .u32 (kq.seq : Int), .int .u32 (kq.ack : Int), .bool kq.plain, .slice A2 L2 C2] rfl rfl rfl (by simp [Value.oneCell']) ?_; intro wo hgo hbo; have HGO := hid hgo; have HBO := hid hbo; clear hgo hbo)
          | fail)
        obtain ⟨gx, hgx⟩ : ∃ gx, gx = wr.heap.size := ⟨_, rfl⟩
        rw [← hgx] at HGO
        rw [← hgx]
        have HGX := hid hgx
        have hgl : gx < wo.heap.size := (Array.getElem?_eq_some_iff.1 HGO.out).1
        have y1 : wo.cell? ⟨gx, 1, none⟩ = some (.slice A L C) := (cell_of_row _ _ _ _ _ _ HGO.out).trans rfl
        have hAl : Below wo.heap.size wo (wo.alloc (.cells #[] 5)) := (Below.refl _ _).alloc (Nat.le_refl _) _
        have z1 := (hAl.cell (p := ⟨gx, 1, none⟩) hgl).trans y1
        have HE := hid (Own.empty wo wo.heap.size (Nat.le_refl _))
        have HBo := hid (HB.out.trans (HBO.out.mono HB.out.size))
        have hso : w.heap.size ≤ wo.heap.size := HBo.out.size
        have HCO := hid (HCT.out.below HBo.out)
        have HPe := hid (HCO.out.rd.alloc (.cells #[] 5))
        have m60 := HCT.out.min
        have l1 := HCT.out.l1
        have l2 := HCT.out.l2
        have l3 := HCT.out.l3
        have l4 := HCT.out.l4
        have l5 := HCT.out.len
        have HNm0 := hid (show ∀ wm, (wo.alloc (.cells #[] 5)).grownBy wm (Value.slice (some ⟨wo.heap.size, 0, none⟩) 0 0).ownBlock → Below wo.heap.size wo wm from fun wm hg => ((Below.refl _ _).alloc (Nat.le_refl _) _).grown hg (by simp) (fun k hk => (HE.out.lt k hk).1))
        clear hAl hgx
        go_upto_block 2 with (first
          | (at_builtin; (refine appk rfl (.tmp 57) (.tmp 64) rfl wo.heap.size (.slice (some ⟨wo.heap.size, 0, none⟩) 0 0) _ [] t t t.length rfl rfl HE.out HPe.out (by simp) rfl (by simp; omega) (by simp) ?_); intro pa pc wm ho2 hg2; have Qm := hid ho2; have HNm := hid (HNm0.out wm hg2); clear ho2 hg2)
          | fail)
        have HGm := hid ((HNm.out.block gx hgl).trans HGO.out)
        have HBM := hid (HBo.out.trans (HNm.out.mono hso))
        have hsm : w.heap.size ≤ wm.heap.size := HBM.out.size
        have f0 : wm.cell? ⟨gx, 0, none⟩ = some (.int .u8 (d : Int)) := (cell_of_row _ _ _ _ _ _ HGm.out).trans rfl
        have HL5 := hid l5
        clear y1 z1 m60 l1 l2 l3 l4 l5
        go_cut [16, 17, 18, 19, 20, 21, 22, 23, 24, 25, 26, 27, 28, 29, 30, 31, 32, 33, 34] from 66 to 210 (fun v16 v17 v18 v19 v20 v21 v22 v23 v24 v25 v26 v27 v28 v29 v30 v31 v32 v33 v34 wx => Below w.heap.size w wx)
        case first =>
          have hparts : d < 2 ∨ d = 2 ∨ 2 < d := by omega
          rcases hparts with hdq | hdq | hdq
          · as_aux_lemma =>
              have hdi : (d : Int) < 2 := by omega
              clear hdq
              have HEm := hid (Own.empty wm wm.heap.size (Nat.le_refl _))
              have HREm := hid (Qm.out.rd.alloc (.cells #[] 5))
              have HM0 := hid (show ∀ w3, (wm.alloc (.cells #[] 5)).grownBy w3 (Value.slice (some ⟨wm.heap.size, 0, none⟩) 0 0).ownBlock → Below wm.heap.size wm w3 from fun w3 hg => ((Below.refl _ _).alloc (Nat.le_refl _) _).grown hg (by simp) (fun k hk => (HEm.out.lt k hk).1))
              have HWQ := hid (show wr.heap.size ≤ wm.heap.size from Nat.le_trans HBO.out.size HNm.out.size)
              obtain ⟨wq, hwq⟩ : ∃ wq, wq = wr := ⟨_, rfl⟩
              subst hwq
              go_wp2_with (first
                | (at_builtin; (refine appk rfl (.tmp 126) (.tmp 127) rfl wm.heap.size (.slice (some ⟨wm.heap.size, 0, none⟩) 0 0) _ [] t t t.length rfl rfl HEm.out HREm.out (by simp) rfl (by have := HL5.out; simp; omega) (by simp) ?_); intro ma mc w3 ho2 hg2; have HO3 := hid ho2; have HB3 := hid (HM0.out w3 hg2); clear ho2 hg2)
                | fail)
              clear f0
              have B3 := hid (HBM.out.trans (HB3.out.mono hsm))
              refine (say_nil ma t.length mc w3).mono ?_
              rintro e w4 ⟨rfl, hb4⟩
              have M4 := hid (HO3.out.below hb4)
              have Q4 := hid ((Qm.out.below HB3.out).below hb4)
              have B4 := hid (B3.out.trans (hb4.mono B3.out.size))
              clear hb4
              dsimp only
              go_wp2_with (first
                | (refine pk_fresh rfl (.tmp 17) (.tmp 133) rfl w4 _ _ _ _ _ _ _ rfl rfl (by simp [Value.oneCell']) ?_; intro w5 hg5 hb5; have HG5 := hid hg5; have HB5 := hid hb5; clear hg5 hb5)
                | fail)
              refine (refsay_nil pa t.length pc w5).mono ?_
              rintro e w6 ⟨rfl, hb6⟩
              have M6 := hid ((M4.out.below HB5.out).below hb6)
              have Q6 := hid ((Q4.out.below HB5.out).below hb6)
              have G6 := hid ((hb6.block w4.heap.size (Array.getElem?_eq_some_iff.1 HG5.out).1).trans HG5.out)
              have B6 := hid ((B4.out.trans (HB5.out.mono B4.out.size)).trans (hb6.mono (Nat.le_trans B4.out.size HB5.out.size)))
              clear hb6
              dsimp only
              go_wp2_with (first
                | (refine pk_fresh rfl (.tmp 19) (.tmp 139) rfl w6 _ _ _ _ _ _ _ rfl rfl (by simp [Value.oneCell']) ?_; intro w7 hg7 hb7; have HG7 := hid hg7; have HB7 := hid hb7; have G7 := hid ((hb7.block w4.heap.size (Array.getElem?_eq_some_iff.1 G6.out).1).trans G6.out); clear hg7 hb7)
                | (refine pk_ld rfl (.tmp 17) rfl w4.heap.size rfl _ _ _ _ _ _ _ G7.out ?_)
                | (refine pk_ld rfl (.tmp 19) rfl w6.heap.size rfl _ _ _ _ _ _ _ HG7.out ?_)
                | (go_at_call 14; refine (samepk_eq Pk.zero none none 0 0 w7 (Rd.nil _) (Rd.nil _)).mono ?_; rintro e w8 ⟨rfl, hb8⟩
                   have HB8 := hid hb8
                   clear hb8)
                | (go_at_call 15; refine (same_eq _ _ t w8 ((M6.out.below HB7.out).below HB8.out).rd ((Q6.out.below HB7.out).below HB8.out).rd).mono ?_; rintro e w' ⟨rfl, rfl⟩)
                | fail)
              have M8 := hid ((M6.out.below HB7.out).below HB8.out)
              have G8 := hid ((HB8.out.block w4.heap.size (Array.getElem?_eq_some_iff.1 G7.out).1).trans G7.out)
              have B8 := hid ((B6.out.trans (HB7.out.mono B6.out.size)).trans (HB8.out.mono (Nat.le_trans B6.out.size HB7.out.size)))
              go_loopw [158] (fun j' wr => ∃ (m : Nat) (l' : List UInt8), m ≤ t.length ∧ j' = .int .i64 m ∧ l'.length = t.length ∧ Own wr wm.heap.size (Value.slice ma t.length mc) l' ∧ Keeps (fun q => (Value.slice ma t.length mc).ownBlock = some q) w8 wr) (fun j' _ => t.length - (intOf j').toNat)
              case atStart => exact ⟨0, t, Nat.zero_le _, rfl, rfl, M8.out, Keeps.refl _ _⟩
              case round =>
                obtain ⟨m, l', hm, rfl, hl', hown, hki⟩ := hrel
                have HOI := hid hown
                have HKI := hid hki
                have HL' := hid hl'
                clear hown hki hl'
                by_cases hml : m < t.length
                · skip
                  obtain ⟨gg, cc, egg⟩ := own_head10 HOI.out (by have := HL'.out; omega)
                  simp only [Value.slice.injEq] at egg
                  obtain ⟨eg1, eg2, eg3⟩ := egg
                  clear eg2
                  subst eg1 eg3
                  have i1 := HOI.out.cell m (by have := HL'.out; omega)
                  have i2 := HOI.out.frozen m
                  obtain ⟨i30, i31, i32⟩ := HOI.out.caps
                  obtain ⟨x, hx⟩ : ∃ x, x = l'.getD m 0 := ⟨_, rfl⟩
                  rw [← hx] at i1
                  unfold bv at i1
                  have HST2 := hid (HOI.out.stored m (x ^^^ 1) _ (xor10 x))
                  have hmli : (m : Int) < (t.length : Int) := by omega
                  clear hx i30 hm
                  go_wp2_with fail
                  go_roundw
                  case rel => exact ⟨m + 1, _, hml, by go_num, by rw [List.length_set]; exact HL'.out, HST2.out, HKI.out.trans ((kset _ gg _ _).mono (fun q _ e => by subst e; rfl))⟩
                  case measure => simp [intOf]; omega
                · obtain rfl : m = t.length := by omega
                  obtain ⟨w9, hw9⟩ : ∃ w9, w9 = wr := ⟨_, rfl⟩
                  subst hw9
                  have G9 := hid ((HKI.out.block w4.heap.size (Array.getElem?_eq_some_iff.1 G8.out).1 (fun e => by
                    obtain ⟨cur, hc⟩ := owns_ty M8.out _ e
                    exact ty_ne G8.out hc (by decide) rfl)).trans G8.out)
                  have B9 := hid (B8.out.trans (HKI.out.below B8.out.size (fun q hq => by have := (HO3.out.lt q hq).1; omega)))
                  have d6 : w9.cell? ⟨w4.heap.size, 6, none⟩ = some (.slice none 0 0) := (cell_of_row _ _ _ _ _ _ G9.out).trans rfl
                  go_wp2_with fail
                  go_loopw [171] (fun j' wr => j' = .int .i64 0 ∧ Keeps (fun q => False) w9 wr) (fun _ _ => 0)
                  case atStart => exact ⟨rfl, Keeps.refl _ _⟩
                  case round =>
                    obtain ⟨rfl, hki⟩ := hrel
                    have HB10 := hid (B9.out.trans (hki.below B9.out.size (fun q hq => hq.elim)))
                    clear hki d6
                    go_wp2_with fail
                    go_meet
                    case rel => exact HB10.out
          · as_aux_lemma =>
              subst hdq
              have q1 : ¬ ((2 : Nat) : Int) < 2 := by omega
              go_wp2_with fail
              refine (tick_nil wm).mono ?_
              rintro e w5 ⟨rfl, rfl⟩
              go_wp2_with fail
              refine (reftick_nil wm).mono ?_
              rintro e w6 ⟨rfl, rfl⟩
              go_wp2_with fail
              go_loopw [197] (fun i wr => i = .int .i64 0 ∧ Keeps (fun q => False) wm wr) (fun _ _ => 0)
              case atStart => exact ⟨rfl, Keeps.refl _ _⟩
              case round =>
                obtain ⟨rfl, hki⟩ := hrel
                have HB10 := hid (HBM.out.trans (hki.below hsm (fun q hq => hq.elim)))
                clear hki
                go_wp2_with fail
                go_meet
                case rel => exact HB10.out
          · as_aux_lemma =>
              have q1 : ¬ (d : Int) < 2 := by omega
              have q2 : ((d : Int) == 2) = false := by rw [beq_eq_false_iff_ne]; omega
              clear hdq
              have HRX := hid (show wm.rangeAt gx 2 [.int .u8 kq.node, .int .u32 kq.epoch, .int .u32 kq.life, .int .u32 (kq.seq : Int), .int .u32 (kq.ack : Int), .bool kq.plain, .slice A2 L2 C2] from fun i v hv => by
                have hi : i < 7 := by have := (List.getElem?_eq_some_iff.1 hv).1; simpa using this
                rw [cell_of_row _ _ _ _ _ _ HGm.out]
                match i, hi, hv with
                | 0, _, hv => exact hv
                | 1, _, hv => exact hv
                | 2, _, hv => exact hv
                | 3, _, hv => exact hv
                | 4, _, hv => exact hv
                | 5, _, hv => exact hv
                | 6, _, hv => exact hv)
              have HBwmw := HBM
              go_wp2_with (first
                | (refine wpList_load_mid rfl 31 (.tmp 66) rfl gx 2 rfl _ _ HRX.out Try.underlying31 rfl (by rw [size_packet]; rfl) ?_)
                | (go_at_call 18; refine (few_any kq A2 L2 C2 wm HCK.out.min HCK.out.l1 HCK.out.l2 HCK.out.l3 HCK.out.l4 HCK.out.len (HCK.out.rd.below HBwmw.out)).mono ?_; rintro e w3 ⟨va, vc, rfl, ho3, hb3⟩
                   have DV3 := hid ho3
                   have HB3 := hid hb3
                   clear ho3 hb3)
                | (refine pk_fresh rfl (.tmp 26) (.tmp 68) rfl w3 _ _ _ _ _ _ _ rfl rfl (by simp [Value.oneCell']) ?_; intro w4 hg4 hb4
                   have HG26' := hid hg4
                   have HB4 := hid hb4
                   clear hg4 hb4)
                | fail)
              clear f0
              obtain ⟨g26, hg26⟩ : ∃ g26, g26 = w3.heap.size := ⟨_, rfl⟩
              rw [← hg26] at HG26'
              rw [← hg26]
              have HG26 := hid HG26'.out
              clear hg26 HG26'
              have HB4w := hid ((HBM.out.trans (HB3.out.mono hsm)).trans (HB4.out.mono (Nat.le_trans hsm HB3.out.size)))
              have DV4 := hid (DV3.out.below HB4.out)
              have HGX4 := hid ((HB4.out.block gx (Nat.lt_of_lt_of_le (Array.getElem?_eq_some_iff.1 HGm.out).1 HB3.out.size)).trans ((HB3.out.block gx (Array.getElem?_eq_some_iff.1 HGm.out).1).trans HGm.out))
              go_upto_region 12 with (fail)
              try simp only [Act.put, List.getElem_toArray, List.getElem_cons_succ, List.getElem_cons_zero, List.setIfInBounds_toArray, List.set_cons_zero, List.set_cons_succ]
              have HUN := hid (show ∀ (W : World) (L : Array Bool), W.heap[g26]? = some (.cells #[.int .u8 kq.node, .int .u32 kq.epoch, .int .u32 kq.life, .int .u32 (kq.seq : Int), .int .u32 (kq.ack : Int), .bool kq.plain, .slice va kq.data.length vc] 31 (0, 0)) → UntilAll [(2, (fun w' => w'.cell? ⟨g26, 0, none⟩ = some (.int .u8 kq.node) ∧ w'.cell? ⟨g26, 1, none⟩ = some (.int .u32 kq.epoch) ∧ w'.cell? ⟨g26, 2, none⟩ = some (.int .u32 kq.life) ∧ w'.cell? ⟨g26, 3, none⟩ = some (.int .u32 (kq.seq : Int)) ∧ w'.cell? ⟨g26, 4, none⟩ = some (.int .u32 (kq.ack : Int)) ∧ w'.cell? ⟨g26, 5, none⟩ = some (.bool kq.plain) ∧ w'.cell? ⟨g26, 6, none⟩ = some (.slice va kq.data.length vc))), (5, (fun w' => w'.cell? ⟨g26, 0, none⟩ = some (.int .u8 kq.node) ∧ w'.cell? ⟨g26, 1, none⟩ = some (.int .u32 kq.epoch) ∧ w'.cell? ⟨g26, 2, none⟩ = some (.int .u32 kq.life) ∧ w'.cell? ⟨g26, 3, none⟩ = some (.int .u32 (kq.seq : Int)) ∧ w'.cell? ⟨g26, 4, none⟩ = some (.int .u32 (kq.ack : Int)) ∧ w'.cell? ⟨g26, 5, none⟩ = some (.bool kq.plain) ∧ w'.cell? ⟨g26, 6, none⟩ = some (.slice va kq.data.length vc)))] L W from by
                intro W L hW c hc _
                simp only [List.mem_cons, List.not_mem_nil, or_false] at hc
                rcases hc with rfl | rfl <;> (refine ⟨?_, ?_, ?_, ?_, ?_, ?_, ?_⟩ <;> exact (cell_of_row _ _ _ _ _ _ hW).trans rfl))
              obtain ⟨wd, hwd⟩ : ∃ wd, wd = w4.drew := ⟨_, rfl⟩
              have HGwd := hid (show wd.heap[g26]? = some (.cells #[.int .u8 kq.node, .int .u32 kq.epoch, .int .u32 kq.life, .int .u32 (kq.seq : Int), .int .u32 (kq.ack : Int), .bool kq.plain, .slice va kq.data.length vc] 31 (0, 0)) by rw [hwd]; exact HG26.out)
              have HB4d := hid (show Below w4.heap.size w4 wd by rw [hwd]; exact below_dr (Below.refl _ _))
              refine Orders.begins (C := [(2, (fun w' => w'.cell? ⟨g26, 0, none⟩ = some (.int .u8 kq.node) ∧ w'.cell? ⟨g26, 1, none⟩ = some (.int .u32 kq.epoch) ∧ w'.cell? ⟨g26, 2, none⟩ = some (.int .u32 kq.life) ∧ w'.cell? ⟨g26, 3, none⟩ = some (.int .u32 (kq.seq : Int)) ∧ w'.cell? ⟨g26, 4, none⟩ = some (.int .u32 (kq.ack : Int)) ∧ w'.cell? ⟨g26, 5, none⟩ = some (.bool kq.plain) ∧ w'.cell? ⟨g26, 6, none⟩ = some (.slice va kq.data.length vc))), (5, (fun w' => w'.cell? ⟨g26, 0, none⟩ = some (.int .u8 kq.node) ∧ w'.cell? ⟨g26, 1, none⟩ = some (.int .u32 kq.epoch) ∧ w'.cell? ⟨g26, 2, none⟩ = some (.int .u32 kq.life) ∧ w'.cell? ⟨g26, 3, none⟩ = some (.int .u32 (kq.seq : Int)) ∧ w'.cell? ⟨g26, 4, none⟩ = some (.int .u32 (kq.ack : Int)) ∧ w'.cell? ⟨g26, 5, none⟩ = some (.bool kq.plain) ∧ w'.cell? ⟨g26, 6, none⟩ = some (.slice va kq.data.length vc)))]) (by kernel_rfl) ?_
              rw [← hwd]
              clear hwd
              refine Orders.take (fun _ => True) [] (i := 0) (v := ?_) rfl (by kernel_rfl) (by kernel_rfl) (by kernel_rfl) (fun _ _ _ h => h) (by kernel_rfl) (fun _ _ _ _ => trivial) (by kernel_rfl) (by kernel_rfl) (Or.inl ⟨by rfl, ?_⟩) (HUN.out _ _ HGwd.out) (fun HU => ?_)
              rotate_left
              · intro u hSw
                try dsimp only at hSw
                go_simp
                try (with_reducible rfl)
              clear HU
              try simp only [Act.put, List.getElem_toArray, List.getElem_cons_succ, List.getElem_cons_zero, List.setIfInBounds_toArray, List.set_cons_zero, List.set_cons_succ]
              refine Orders.take (fun w' => w'.cell? ⟨g26, 0, none⟩ = some (.int .u8 kq.node) ∧ w'.cell? ⟨g26, 1, none⟩ = some (.int .u32 kq.epoch) ∧ w'.cell? ⟨g26, 2, none⟩ = some (.int .u32 kq.life) ∧ w'.cell? ⟨g26, 3, none⟩ = some (.int .u32 (kq.seq : Int)) ∧ w'.cell? ⟨g26, 4, none⟩ = some (.int .u32 (kq.ack : Int)) ∧ w'.cell? ⟨g26, 5, none⟩ = some (.bool kq.plain) ∧ w'.cell? ⟨g26, 6, none⟩ = some (.slice va kq.data.length vc)) [2] (i := 1) (v := ?_) rfl (by kernel_rfl) (by kernel_rfl) (by kernel_rfl) (fun _ _ _ h => h) (by kernel_rfl) (fun L u hd h => h (2, (fun w' => w'.cell? ⟨g26, 0, none⟩ = some (.int .u8 kq.node) ∧ w'.cell? ⟨g26, 1, none⟩ = some (.int .u32 kq.epoch) ∧ w'.cell? ⟨g26, 2, none⟩ = some (.int .u32 kq.life) ∧ w'.cell? ⟨g26, 3, none⟩ = some (.int .u32 (kq.seq : Int)) ∧ w'.cell? ⟨g26, 4, none⟩ = some (.int .u32 (kq.ack : Int)) ∧ w'.cell? ⟨g26, 5, none⟩ = some (.bool kq.plain) ∧ w'.cell? ⟨g26, 6, none⟩ = some (.slice va kq.data.length vc))) (by simp) (hd 2 (by simp))) (by kernel_rfl) (by kernel_rfl) (Or.inl ⟨by rfl, ?_⟩) (HUN.out _ _ HGwd.out) (fun HU => ?_)
              rotate_left
              · intro u hSw
                try dsimp only at hSw
                obtain ⟨s0, s1, s2, s3, s4, s5, s6⟩ := hSw
                go_simp
                try (with_reducible rfl)
              clear HU
              try simp only [Act.put, List.getElem_toArray, List.getElem_cons_succ, List.getElem_cons_zero, List.setIfInBounds_toArray, List.set_cons_zero, List.set_cons_succ]
              refine Orders.take (fun _ => True) [] (i := 3) (v := ?_) rfl (by kernel_rfl) (by kernel_rfl) (by kernel_rfl) (fun _ _ _ h => h) (by kernel_rfl) (fun _ _ _ _ => trivial) (by kernel_rfl) (by kernel_rfl) (Or.inl ⟨by rfl, ?_⟩) (HUN.out _ _ HGwd.out) (fun HU => ?_)
              rotate_left
              · intro u hSw
                try dsimp only at hSw
                go_simp
                try (with_reducible rfl)
              clear HU
              try simp only [Act.put, List.getElem_toArray, List.getElem_cons_succ, List.getElem_cons_zero, List.setIfInBounds_toArray, List.set_cons_zero, List.set_cons_succ]
              refine Orders.take (fun w' => w'.cell? ⟨g26, 0, none⟩ = some (.int .u8 kq.node) ∧ w'.cell? ⟨g26, 1, none⟩ = some (.int .u32 kq.epoch) ∧ w'.cell? ⟨g26, 2, none⟩ = some (.int .u32 kq.life) ∧ w'.cell? ⟨g26, 3, none⟩ = some (.int .u32 (kq.seq : Int)) ∧ w'.cell? ⟨g26, 4, none⟩ = some (.int .u32 (kq.ack : Int)) ∧ w'.cell? ⟨g26, 5, none⟩ = some (.bool kq.plain) ∧ w'.cell? ⟨g26, 6, none⟩ = some (.slice va kq.data.length vc)) [5] (i := 4) (v := ?_) rfl (by kernel_rfl) (by kernel_rfl) (by kernel_rfl) (fun _ _ _ h => h) (by kernel_rfl) (fun L u hd h => h (5, (fun w' => w'.cell? ⟨g26, 0, none⟩ = some (.int .u8 kq.node) ∧ w'.cell? ⟨g26, 1, none⟩ = some (.int .u32 kq.epoch) ∧ w'.cell? ⟨g26, 2, none⟩ = some (.int .u32 kq.life) ∧ w'.cell? ⟨g26, 3, none⟩ = some (.int .u32 (kq.seq : Int)) ∧ w'.cell? ⟨g26, 4, none⟩ = some (.int .u32 (kq.ack : Int)) ∧ w'.cell? ⟨g26, 5, none⟩ = some (.bool kq.plain) ∧ w'.cell? ⟨g26, 6, none⟩ = some (.slice va kq.data.length vc))) (by simp) (hd 5 (by simp))) (by kernel_rfl) (by kernel_rfl) (Or.inl ⟨by rfl, ?_⟩) (HUN.out _ _ HGwd.out) (fun HU => ?_)
              rotate_left
              · intro u hSw
                try dsimp only at hSw
                obtain ⟨s0, s1, s2, s3, s4, s5, s6⟩ := hSw
                go_simp
                try (with_reducible rfl)
              clear HU
              try simp only [Act.put, List.getElem_toArray, List.getElem_cons_succ, List.getElem_cons_zero, List.setIfInBounds_toArray, List.set_cons_zero, List.set_cons_succ]
              refine Orders.one (i := 2) (by kernel_rfl) rfl (fun K hK => ?_)
              go_simp
              refine (mine_nil kq va kq.data.length vc wd).mono ?_
              rintro e we ⟨rfl, hb⟩
              have HBxwe := hid hb
              have HGwe := hid ((hb.block g26 (Array.getElem?_eq_some_iff.1 HGwd.out).1).trans HGwd.out)
              clear hb
              refine hK.out _ _ (HUN.out _ _ HGwe.out) (fun HU => ?_)
              clear hK K HU
              try simp only [Act.put, List.getElem_toArray, List.getElem_cons_succ, List.getElem_cons_zero, List.setIfInBounds_toArray, List.set_cons_zero, List.set_cons_succ]
              refine Orders.one (i := 5) (by kernel_rfl) rfl (fun K hK => ?_)
              go_simp
              refine (refmine_nil kq va kq.data.length vc we).mono ?_
              rintro e wf ⟨rfl, hb⟩
              have HBxwf := hid hb
              have HGwf := hid ((hb.block g26 (Array.getElem?_eq_some_iff.1 HGwe.out).1).trans HGwe.out)
              clear hb
              refine hK.out _ _ (HUN.out _ _ HGwf.out) (fun HU => ?_)
              clear hK K HU
              try simp only [Act.put, List.getElem_toArray, List.getElem_cons_succ, List.getElem_cons_zero, List.setIfInBounds_toArray, List.set_cons_zero, List.set_cons_succ]
              refine Orders.take (fun _ => True) [] (i := 6) (v := ?_) rfl (by kernel_rfl) (by kernel_rfl) (by kernel_rfl) (fun _ _ _ h => h) (by kernel_rfl) (fun _ _ _ _ => trivial) (by kernel_rfl) (by kernel_rfl) (Or.inl ⟨by rfl, ?_⟩) (HUN.out _ _ HGwf.out) (fun HU => ?_)
              rotate_left
              · intro u hSw
                try dsimp only at hSw
                go_simp
                try (with_reducible rfl)
              clear HU
              try simp only [Act.put, List.getElem_toArray, List.getElem_cons_succ, List.getElem_cons_zero, List.setIfInBounds_toArray, List.set_cons_zero, List.set_cons_succ]
              refine Orders.ends (by kernel_rfl) ?_ _
              obtain ⟨w5, hw5⟩ : ∃ w5, w5 = wf := ⟨_, rfl⟩
              rw [← hw5]
              have hcb : Below w4.heap.size w4 w5 := by rw [hw5]; exact HB4d.out.trans ((HBxwe.out.trans (HBxwf.out.mono HBxwe.out.size)).mono HB4d.out.size)
              clear hw5 HUN
              have HB5 := hid hcb
              have HB5w := hid (HB4w.out.trans (hcb.mono HB4w.out.size))
              have DV5 := hid (DV4.out.below hcb)
              have HGX5 := hid ((hcb.block gx (Array.getElem?_eq_some_iff.1 HGX4.out).1).trans HGX4.out)
              have HG265 := hid ((hcb.block g26 (Array.getElem?_eq_some_iff.1 HG26.out).1).trans HG26.out)
              have hs5w : w.heap.size ≤ w5.heap.size := HB5w.out.size
              have HLEN := hid (show kq.data.length ≤ 1000000 by have := HCK.out.len; omega)
              clear hcb
              go_wp2_with (first | (refine pk_ld rfl (.tmp 26) rfl g26 rfl _ _ _ _ _ _ _ HG265.out ?_) | fail)
              refine (hear_nil kq va vc w5).mono ?_
              rintro e w6 ⟨rfl, hb6⟩
              have HB6w := hid (HB5w.out.trans (hb6.mono hs5w))
              have DV6 := hid (DV5.out.below hb6)
              have HGX6 := hid ((hb6.block gx (Array.getElem?_eq_some_iff.1 HGX5.out).1).trans HGX5.out)
              have HG266 := hid ((hb6.block g26 (Array.getElem?_eq_some_iff.1 HG265.out).1).trans HG265.out)
              clear hb6
              dsimp only
              go_wp2_with (first
                | (refine pk_fresh rfl (.tmp 29) (.tmp 82) rfl w6 _ _ _ _ _ _ _ rfl rfl (by simp [Value.oneCell']) ?_; intro w7 hg7 hb7
                   have HG29' := hid hg7
                   have HB7 := hid hb7
                   have HGX7 := hid ((hb7.block gx (Array.getElem?_eq_some_iff.1 HGX6.out).1).trans HGX6.out)
                   have HRX7 := hid (show w7.rangeAt gx 2 [.int .u8 kq.node, .int .u32 kq.epoch, .int .u32 kq.life, .int .u32 (kq.seq : Int), .int .u32 (kq.ack : Int), .bool kq.plain, .slice A2 L2 C2] from fun i v hv => by
                    have hi : i < 7 := by have := (List.getElem?_eq_some_iff.1 hv).1; simpa using this
                    rw [cell_of_row _ _ _ _ _ _ HGX7.out]
                    match i, hi, hv with
                    | 0, _, hv => exact hv
                    | 1, _, hv => exact hv
                    | 2, _, hv => exact hv
                    | 3, _, hv => exact hv
                    | 4, _, hv => exact hv
                    | 5, _, hv => exact hv
                    | 6, _, hv => exact hv)
                   clear hg7 hb7)
                | (refine wpList_load_mid rfl 31 (.tmp 86) rfl gx 2 rfl _ _ HRX7.out Try.underlying31 rfl (by rw [size_packet]; rfl) ?_)
                | (go_at_call 18; refine (few_any kq A2 L2 C2 w7 HCK.out.min HCK.out.l1 HCK.out.l2 HCK.out.l3 HCK.out.l4 HCK.out.len (HCK.out.rd.below (HB6w.out.trans (HB7.out.mono HB6w.out.size)))).mono ?_; rintro e w8 ⟨vb, vd, rfl, ho8, hb8⟩
                   have DB8 := hid ho8
                   have HB8 := hid hb8
                   clear ho8 hb8)
                | fail)
              obtain ⟨g29, hg29⟩ : ∃ g29, g29 = w6.heap.size := ⟨_, rfl⟩
              rw [← hg29] at HG29'
              rw [← hg29]
              have HG297 := hid HG29'.out
              clear hg29 HG29'
              have HB8w := hid ((HB6w.out.trans (HB7.out.mono HB6w.out.size)).trans (HB8.out.mono (Nat.le_trans HB6w.out.size HB7.out.size)))
              have DV8 := hid ((DV6.out.below HB7.out).below HB8.out)
              have HGX8 := hid ((HB8.out.block gx (Array.getElem?_eq_some_iff.1 HGX7.out).1).trans HGX7.out)
              have HG268 := hid ((HB8.out.block g26 (Nat.lt_of_lt_of_le (Array.getElem?_eq_some_iff.1 HG266.out).1 HB7.out.size)).trans ((HB7.out.block g26 (Array.getElem?_eq_some_iff.1 HG266.out).1).trans HG266.out))
              have HG298 := hid ((HB8.out.block g29 (Array.getElem?_eq_some_iff.1 HG297.out).1).trans HG297.out)
              refine (refhear_nil kq vb vd w8).mono ?_
              rintro e wh ⟨rfl, hbh⟩
              have HBhw := hid (HB8w.out.trans (hbh.mono HB8w.out.size))
              have DVh := hid (DV8.out.below hbh)
              have HGXh := hid ((hbh.block gx (Array.getElem?_eq_some_iff.1 HGX8.out).1).trans HGX8.out)
              have HG26h := hid ((hbh.block g26 (Array.getElem?_eq_some_iff.1 HG268.out).1).trans HG268.out)
              have HG29h := hid ((hbh.block g29 (Array.getElem?_eq_some_iff.1 HG298.out).1).trans HG298.out)
              clear hbh
              dsimp only
              go_upto_region 16 with (first
                | (refine pk_fresh rfl (.tmp 33) (.tmp 92) rfl wh _ _ _ _ _ _ _ rfl rfl (by simp [Value.oneCell']) ?_; intro w9 hg9 hb9
                   have HG33' := hid hg9
                   have HBh9 := hid hb9
                   clear hg9 hb9)
                | fail)
              obtain ⟨g33, hg33⟩ : ∃ g33, g33 = wh.heap.size := ⟨_, rfl⟩
              rw [← hg33] at HG33'
              rw [← hg33]
              have HG33w9 := hid HG33'.out
              clear hg33 HG33'
              have HB9 := hid (HBhw.out.trans (HBh9.out.mono HBhw.out.size))
              have DV := hid (DVh.out.below HBh9.out)
              have HGXw9 := hid ((HBh9.out.block gx (Array.getElem?_eq_some_iff.1 HGXh.out).1).trans HGXh.out)
              have HG26w9 := hid ((HBh9.out.block g26 (Array.getElem?_eq_some_iff.1 HG26h.out).1).trans HG26h.out)
              have HG29w9 := hid ((HBh9.out.block g29 (Array.getElem?_eq_some_iff.1 HG29h.out).1).trans HG29h.out)
              have HBBw9 := hid (Below.refl w9.heap.size w9)
              clear HGX
              have HUN := hid (show ∀ (W : World) (Lb : Array Bool), W.heap[g29]? = some (.cells #[.int .u8 0, .int .u32 0, .int .u32 0, .int .u32 0, .int .u32 0, .bool false, .slice none 0 0] 31 (0, 0)) → W.heap[g33]? = some (.cells #[.int .u8 0, .int .u32 0, .int .u32 0, .int .u32 0, .int .u32 0, .bool false, .slice none 0 0] 31 (0, 0)) → W.heap[g26]? = some (.cells #[.int .u8 kq.node, .int .u32 kq.epoch, .int .u32 kq.life, .int .u32 (kq.seq : Int), .int .u32 (kq.ack : Int), .bool kq.plain, .slice va kq.data.length vc] 31 (0, 0)) → W.heap[gx]? = some (.cells #[.int .u8 (d : Int), .slice A L C, .int .u8 kq.node, .int .u32 kq.epoch, .int .u32 kq.life, .int .u32 (kq.seq : Int), .int .u32 (kq.ack : Int), .bool kq.plain, .slice A2 L2 C2] 33 (0, 0)) → UntilAll [(12, (fun w' => w'.cell? ⟨g29, 0, none⟩ = some (.int .u8 0) ∧ w'.cell? ⟨g29, 1, none⟩ = some (.int .u32 0) ∧ w'.cell? ⟨g29, 2, none⟩ = some (.int .u32 0) ∧ w'.cell? ⟨g29, 3, none⟩ = some (.int .u32 0) ∧ w'.cell? ⟨g29, 4, none⟩ = some (.int .u32 0) ∧ w'.cell? ⟨g29, 5, none⟩ = some (.bool false) ∧ w'.cell? ⟨g29, 6, none⟩ = some (.slice none 0 0))), (12, (fun w' => w'.cell? ⟨g33, 0, none⟩ = some (.int .u8 0) ∧ w'.cell? ⟨g33, 1, none⟩ = some (.int .u32 0) ∧ w'.cell? ⟨g33, 2, none⟩ = some (.int .u32 0) ∧ w'.cell? ⟨g33, 3, none⟩ = some (.int .u32 0) ∧ w'.cell? ⟨g33, 4, none⟩ = some (.int .u32 0) ∧ w'.cell? ⟨g33, 5, none⟩ = some (.bool false) ∧ w'.cell? ⟨g33, 6, none⟩ = some (.slice none 0 0))), (25, (fun w' => w'.cell? ⟨g26, 0, none⟩ = some (.int .u8 kq.node) ∧ w'.cell? ⟨g26, 1, none⟩ = some (.int .u32 kq.epoch) ∧ w'.cell? ⟨g26, 2, none⟩ = some (.int .u32 kq.life) ∧ w'.cell? ⟨g26, 3, none⟩ = some (.int .u32 (kq.seq : Int)) ∧ w'.cell? ⟨g26, 4, none⟩ = some (.int .u32 (kq.ack : Int)) ∧ w'.cell? ⟨g26, 5, none⟩ = some (.bool kq.plain) ∧ w'.cell? ⟨g26, 6, none⟩ = some (.slice va kq.data.length vc))), (24, (fun w' => w'.cell? ⟨gx, 2, none⟩ = some (.int .u8 kq.node) ∧ w'.cell? ⟨gx, 3, none⟩ = some (.int .u32 kq.epoch) ∧ w'.cell? ⟨gx, 4, none⟩ = some (.int .u32 kq.life) ∧ w'.cell? ⟨gx, 5, none⟩ = some (.int .u32 (kq.seq : Int)) ∧ w'.cell? ⟨gx, 6, none⟩ = some (.int .u32 (kq.ack : Int)) ∧ w'.cell? ⟨gx, 7, none⟩ = some (.bool kq.plain) ∧ w'.cell? ⟨gx, 8, none⟩ = some (.slice A2 L2 C2)))] Lb W from by
                intro W Lb h1 h2 h3 h4 c hc _
                simp only [List.mem_cons, List.not_mem_nil, or_false] at hc
                rcases hc with rfl | rfl | rfl | rfl
                · refine ⟨?_, ?_, ?_, ?_, ?_, ?_, ?_⟩ <;> exact (cell_of_row _ _ _ _ _ _ h1).trans rfl
                · refine ⟨?_, ?_, ?_, ?_, ?_, ?_, ?_⟩ <;> exact (cell_of_row _ _ _ _ _ _ h2).trans rfl
                · refine ⟨?_, ?_, ?_, ?_, ?_, ?_, ?_⟩ <;> exact (cell_of_row _ _ _ _ _ _ h3).trans rfl
                · refine ⟨?_, ?_, ?_, ?_, ?_, ?_, ?_⟩ <;> exact (cell_of_row _ _ _ _ _ _ h4).trans rfl)
              obtain ⟨wd, hwd⟩ : ∃ wd, wd = w9.drew := ⟨_, rfl⟩
              have hb : Below w9.heap.size w9 wd := by rw [hwd]; exact below_dr (Below.refl _ _)
              have HBxwd := hid hb
              have HG29wd := hid ((hb.block g29 (Array.getElem?_eq_some_iff.1 HG29w9.out).1).trans HG29w9.out)
              have HG33wd := hid ((hb.block g33 (Array.getElem?_eq_some_iff.1 HG33w9.out).1).trans HG33w9.out)
              have HG26wd := hid ((hb.block g26 (Array.getElem?_eq_some_iff.1 HG26w9.out).1).trans HG26w9.out)
              have HGXwd := hid ((hb.block gx (Array.getElem?_eq_some_iff.1 HGXw9.out).1).trans HGXw9.out)
              have HBBwd := hid (HBBw9.out.trans (hb.mono HBBw9.out.size))
              clear hb
              refine Orders.begins (C := [(12, (fun w' => w'.cell? ⟨g29, 0, none⟩ = some (.int .u8 0) ∧ w'.cell? ⟨g29, 1, none⟩ = some (.int .u32 0) ∧ w'.cell? ⟨g29, 2, none⟩ = some (.int .u32 0) ∧ w'.cell? ⟨g29, 3, none⟩ = some (.int .u32 0) ∧ w'.cell? ⟨g29, 4, none⟩ = some (.int .u32 0) ∧ w'.cell? ⟨g29, 5, none⟩ = some (.bool false) ∧ w'.cell? ⟨g29, 6, none⟩ = some (.slice none 0 0))), (12, (fun w' => w'.cell? ⟨g33, 0, none⟩ = some (.int .u8 0) ∧ w'.cell? ⟨g33, 1, none⟩ = some (.int .u32 0) ∧ w'.cell? ⟨g33, 2, none⟩ = some (.int .u32 0) ∧ w'.cell? ⟨g33, 3, none⟩ = some (.int .u32 0) ∧ w'.cell? ⟨g33, 4, none⟩ = some (.int .u32 0) ∧ w'.cell? ⟨g33, 5, none⟩ = some (.bool false) ∧ w'.cell? ⟨g33, 6, none⟩ = some (.slice none 0 0))), (25, (fun w' => w'.cell? ⟨g26, 0, none⟩ = some (.int .u8 kq.node) ∧ w'.cell? ⟨g26, 1, none⟩ = some (.int .u32 kq.epoch) ∧ w'.cell? ⟨g26, 2, none⟩ = some (.int .u32 kq.life) ∧ w'.cell? ⟨g26, 3, none⟩ = some (.int .u32 (kq.seq : Int)) ∧ w'.cell? ⟨g26, 4, none⟩ = some (.int .u32 (kq.ack : Int)) ∧ w'.cell? ⟨g26, 5, none⟩ = some (.bool kq.plain) ∧ w'.cell? ⟨g26, 6, none⟩ = some (.slice va kq.data.length vc))), (24, (fun w' => w'.cell? ⟨gx, 2, none⟩ = some (.int .u8 kq.node) ∧ w'.cell? ⟨gx, 3, none⟩ = some (.int .u32 kq.epoch) ∧ w'.cell? ⟨gx, 4, none⟩ = some (.int .u32 kq.life) ∧ w'.cell? ⟨gx, 5, none⟩ = some (.int .u32 (kq.seq : Int)) ∧ w'.cell? ⟨gx, 6, none⟩ = some (.int .u32 (kq.ack : Int)) ∧ w'.cell? ⟨gx, 7, none⟩ = some (.bool kq.plain) ∧ w'.cell? ⟨gx, 8, none⟩ = some (.slice A2 L2 C2)))]) (by kernel_rfl) ?_
              rw [← hwd]
              clear hwd
              refine Orders.take (fun _ => True) [] (i := 0) (v := ?_) rfl (by kernel_rfl) (by kernel_rfl) (by kernel_rfl) (fun _ _ _ h => h) (by kernel_rfl) (fun _ _ _ _ => trivial) (by kernel_rfl) (by kernel_rfl) (Or.inl ⟨by rfl, ?_⟩) (HUN.out _ _ HG29wd.out HG33wd.out HG26wd.out HGXwd.out) (fun HU => ?_)
              rotate_left
              · intro u hSw
                try dsimp only at hSw
                go_simp
                try (with_reducible rfl)
              clear HU
              try simp only [Act.put, List.getElem_toArray, List.getElem_cons_succ, List.getElem_cons_zero, List.setIfInBounds_toArray, List.set_cons_zero, List.set_cons_succ]
              refine Orders.take (fun _ => True) [] (i := 1) (v := ?_) rfl (by kernel_rfl) (by kernel_rfl) (by kernel_rfl) (fun _ _ _ h => h) (by kernel_rfl) (fun _ _ _ _ => trivial) (by kernel_rfl) (by kernel_rfl) (Or.inl ⟨by rfl, ?_⟩) (HUN.out _ _ HG29wd.out HG33wd.out HG26wd.out HGXwd.out) (fun HU => ?_)
              rotate_left
              · intro u hSw
                try dsimp only at hSw
                go_simp
                try (with_reducible rfl)
              clear HU
              try simp only [Act.put, List.getElem_toArray, List.getElem_cons_succ, List.getElem_cons_zero, List.setIfInBounds_toArray, List.set_cons_zero, List.set_cons_succ]
              refine Orders.one (i := 2) (by kernel_rfl) rfl (fun K hK => ?_)
              go_simp
              refine (same_eq _ _ [] wd (Rd.nil _) (Rd.nil _)).mono ?_
              rintro e w' ⟨rfl, rfl⟩
              refine hK.out _ _ (HUN.out _ _ HG29wd.out HG33wd.out HG26wd.out HGXwd.out) (fun HU => ?_)
              clear hK K HU
              try simp only [Act.put, List.getElem_toArray, List.getElem_cons_succ, List.getElem_cons_zero, List.setIfInBounds_toArray, List.set_cons_zero, List.set_cons_succ]
              refine Orders.take (fun _ => True) [] (i := 3) (v := ?_) rfl (by kernel_rfl) (by kernel_rfl) (by kernel_rfl) (fun _ _ _ h => h) (by kernel_rfl) (fun _ _ _ _ => trivial) (by kernel_rfl) (by kernel_rfl) (Or.inl ⟨by rfl, ?_⟩) (HUN.out _ _ HG29wd.out HG33wd.out HG26wd.out HGXwd.out) (fun HU => ?_)
              rotate_left
              · intro u hSw
                try dsimp only at hSw
                go_simp
                try (with_reducible rfl)
              clear HU
              try simp only [Act.put, List.getElem_toArray, List.getElem_cons_succ, List.getElem_cons_zero, List.setIfInBounds_toArray, List.set_cons_zero, List.set_cons_succ]
              refine Orders.take (fun _ => True) [] (i := 4) (v := ?_) rfl (by kernel_rfl) (by kernel_rfl) (by kernel_rfl) (fun _ _ _ h => h) (by kernel_rfl) (fun _ _ _ _ => trivial) (by kernel_rfl) (by kernel_rfl) (Or.inl ⟨by rfl, ?_⟩) (HUN.out _ _ HG29wd.out HG33wd.out HG26wd.out HGXwd.out) (fun HU => ?_)
              rotate_left
              · intro u hSw
                try dsimp only at hSw
                go_simp
                try (with_reducible rfl)
              clear HU
              try simp only [Act.put, List.getElem_toArray, List.getElem_cons_succ, List.getElem_cons_zero, List.setIfInBounds_toArray, List.set_cons_zero, List.set_cons_succ]
              refine Orders.take (fun _ => True) [] (i := 5) (v := ?_) rfl (by kernel_rfl) (by kernel_rfl) (by kernel_rfl) (fun _ _ _ h => h) (by kernel_rfl) (fun _ _ _ _ => trivial) (by kernel_rfl) (by kernel_rfl) (Or.inl ⟨by rfl, ?_⟩) (HUN.out _ _ HG29wd.out HG33wd.out HG26wd.out HGXwd.out) (fun HU => ?_)
              rotate_left
              · intro u hSw
                try dsimp only at hSw
                go_simp
                try (with_reducible rfl)
              clear HU
              try simp only [Act.put, List.getElem_toArray, List.getElem_cons_succ, List.getElem_cons_zero, List.setIfInBounds_toArray, List.set_cons_zero, List.set_cons_succ]
              refine Orders.take (fun _ => True) [] (i := 6) (v := ?_) rfl (by kernel_rfl) (by kernel_rfl) (by kernel_rfl) (fun _ _ _ h => h) (by kernel_rfl) (fun _ _ _ _ => trivial) (by kernel_rfl) (by kernel_rfl) (Or.inl ⟨by rfl, ?_⟩) (HUN.out _ _ HG29wd.out HG33wd.out HG26wd.out HGXwd.out) (fun HU => ?_)
              rotate_left
              · intro u hSw
                try dsimp only at hSw
                go_simp
                try (with_reducible rfl)
              clear HU
              try simp only [Act.put, List.getElem_toArray, List.getElem_cons_succ, List.getElem_cons_zero, List.setIfInBounds_toArray, List.set_cons_zero, List.set_cons_succ]
              refine Orders.take (fun _ => True) [] (i := 7) (v := ?_) rfl (by kernel_rfl) (by kernel_rfl) (by kernel_rfl) (fun _ _ _ h => h) (by kernel_rfl) (fun _ _ _ _ => trivial) (by kernel_rfl) (by kernel_rfl) (Or.inl ⟨by rfl, ?_⟩) (HUN.out _ _ HG29wd.out HG33wd.out HG26wd.out HGXwd.out) (fun HU => ?_)
              rotate_left
              · intro u hSw
                try dsimp only at hSw
                go_simp
                try (with_reducible rfl)
              clear HU
              try simp only [Act.put, List.getElem_toArray, List.getElem_cons_succ, List.getElem_cons_zero, List.setIfInBounds_toArray, List.set_cons_zero, List.set_cons_succ]
              refine Orders.take (fun _ => True) [] (i := 8) (v := ?_) rfl (by kernel_rfl) (by kernel_rfl) (by kernel_rfl) (fun _ _ _ h => h) (by kernel_rfl) (fun _ _ _ _ => trivial) (by kernel_rfl) (by kernel_rfl) (Or.inl ⟨by rfl, ?_⟩) (HUN.out _ _ HG29wd.out HG33wd.out HG26wd.out HGXwd.out) (fun HU => ?_)
              rotate_left
              · intro u hSw
                try dsimp only at hSw
                go_simp
                try (with_reducible rfl)
              clear HU
              try simp only [Act.put, List.getElem_toArray, List.getElem_cons_succ, List.getElem_cons_zero, List.setIfInBounds_toArray, List.set_cons_zero, List.set_cons_succ]
              refine Orders.take (fun _ => True) [] (i := 9) (v := ?_) rfl (by kernel_rfl) (by kernel_rfl) (by kernel_rfl) (fun _ _ _ h => h) (by kernel_rfl) (fun _ _ _ _ => trivial) (by kernel_rfl) (by kernel_rfl) (Or.inl ⟨by rfl, ?_⟩) (HUN.out _ _ HG29wd.out HG33wd.out HG26wd.out HGXwd.out) (fun HU => ?_)
              rotate_left
              · intro u hSw
                try dsimp only at hSw
                go_simp
                try (with_reducible rfl)
              clear HU
              try simp only [Act.put, List.getElem_toArray, List.getElem_cons_succ, List.getElem_cons_zero, List.setIfInBounds_toArray, List.set_cons_zero, List.set_cons_succ]
              refine Orders.take (fun w' => w'.cell? ⟨g29, 0, none⟩ = some (.int .u8 0) ∧ w'.cell? ⟨g29, 1, none⟩ = some (.int .u32 0) ∧ w'.cell? ⟨g29, 2, none⟩ = some (.int .u32 0) ∧ w'.cell? ⟨g29, 3, none⟩ = some (.int .u32 0) ∧ w'.cell? ⟨g29, 4, none⟩ = some (.int .u32 0) ∧ w'.cell? ⟨g29, 5, none⟩ = some (.bool false) ∧ w'.cell? ⟨g29, 6, none⟩ = some (.slice none 0 0)) [12] (i := 10) (v := ?_) rfl (by kernel_rfl) (by kernel_rfl) (by kernel_rfl) (fun _ _ _ h => h) (by kernel_rfl) (fun L u hd h => h (12, (fun w' => w'.cell? ⟨g29, 0, none⟩ = some (.int .u8 0) ∧ w'.cell? ⟨g29, 1, none⟩ = some (.int .u32 0) ∧ w'.cell? ⟨g29, 2, none⟩ = some (.int .u32 0) ∧ w'.cell? ⟨g29, 3, none⟩ = some (.int .u32 0) ∧ w'.cell? ⟨g29, 4, none⟩ = some (.int .u32 0) ∧ w'.cell? ⟨g29, 5, none⟩ = some (.bool false) ∧ w'.cell? ⟨g29, 6, none⟩ = some (.slice none 0 0))) (by simp) (hd 12 (by simp))) (by kernel_rfl) (by kernel_rfl) (Or.inl ⟨by rfl, ?_⟩) (HUN.out _ _ HG29wd.out HG33wd.out HG26wd.out HGXwd.out) (fun HU => ?_)
              rotate_left
              · intro u hSw
                try dsimp only at hSw
                obtain ⟨s0, s1, s2, s3, s4, s5, s6⟩ := hSw
                go_simp
                try (with_reducible rfl)
              clear HU
              try simp only [Act.put, List.getElem_toArray, List.getElem_cons_succ, List.getElem_cons_zero, List.setIfInBounds_toArray, List.set_cons_zero, List.set_cons_succ]
              refine Orders.take (fun w' => w'.cell? ⟨g33, 0, none⟩ = some (.int .u8 0) ∧ w'.cell? ⟨g33, 1, none⟩ = some (.int .u32 0) ∧ w'.cell? ⟨g33, 2, none⟩ = some (.int .u32 0) ∧ w'.cell? ⟨g33, 3, none⟩ = some (.int .u32 0) ∧ w'.cell? ⟨g33, 4, none⟩ = some (.int .u32 0) ∧ w'.cell? ⟨g33, 5, none⟩ = some (.bool false) ∧ w'.cell? ⟨g33, 6, none⟩ = some (.slice none 0 0)) [12] (i := 11) (v := ?_) rfl (by kernel_rfl) (by kernel_rfl) (by kernel_rfl) (fun _ _ _ h => h) (by kernel_rfl) (fun L u hd h => h (12, (fun w' => w'.cell? ⟨g33, 0, none⟩ = some (.int .u8 0) ∧ w'.cell? ⟨g33, 1, none⟩ = some (.int .u32 0) ∧ w'.cell? ⟨g33, 2, none⟩ = some (.int .u32 0) ∧ w'.cell? ⟨g33, 3, none⟩ = some (.int .u32 0) ∧ w'.cell? ⟨g33, 4, none⟩ = some (.int .u32 0) ∧ w'.cell? ⟨g33, 5, none⟩ = some (.bool false) ∧ w'.cell? ⟨g33, 6, none⟩ = some (.slice none 0 0))) (by simp) (hd 12 (by simp))) (by kernel_rfl) (by kernel_rfl) (Or.inl ⟨by rfl, ?_⟩) (HUN.out _ _ HG29wd.out HG33wd.out HG26wd.out HGXwd.out) (fun HU => ?_)
              rotate_left
              · intro u hSw
                try dsimp only at hSw
                obtain ⟨s0, s1, s2, s3, s4, s5, s6⟩ := hSw
                go_simp
                try (with_reducible rfl)
              clear HU
              try simp only [Act.put, List.getElem_toArray, List.getElem_cons_succ, List.getElem_cons_zero, List.setIfInBounds_toArray, List.set_cons_zero, List.set_cons_succ]
              refine Orders.one (i := 12) (by kernel_rfl) rfl (fun K hK => ?_)
              go_simp
              refine (samepk_eq Pk.zero none none 0 0 wd (Rd.nil _) (Rd.nil _)).mono ?_
              rintro e we ⟨rfl, hb⟩
              have HBxwe := hid hb
              have HG29we := hid ((hb.block g29 (Array.getElem?_eq_some_iff.1 HG29wd.out).1).trans HG29wd.out)
              have HG33we := hid ((hb.block g33 (Array.getElem?_eq_some_iff.1 HG33wd.out).1).trans HG33wd.out)
              have HG26we := hid ((hb.block g26 (Array.getElem?_eq_some_iff.1 HG26wd.out).1).trans HG26wd.out)
              have HGXwe := hid ((hb.block gx (Array.getElem?_eq_some_iff.1 HGXwd.out).1).trans HGXwd.out)
              have HBBwe := hid (HBBwd.out.trans (hb.mono HBBwd.out.size))
              clear hb
              refine hK.out _ _ (HUN.out _ _ HG29we.out HG33we.out HG26we.out HGXwe.out) (fun HU => ?_)
              clear hK K HU
              try simp only [Act.put, List.getElem_toArray, List.getElem_cons_succ, List.getElem_cons_zero, List.setIfInBounds_toArray, List.set_cons_zero, List.set_cons_succ]
              refine Orders.take (fun _ => True) [] (i := 13) (v := ?_) rfl (by kernel_rfl) (by kernel_rfl) (by kernel_rfl) (fun _ _ _ h => h) (by kernel_rfl) (fun _ _ _ _ => trivial) (by kernel_rfl) (by kernel_rfl) (Or.inl ⟨by rfl, ?_⟩) (HUN.out _ _ HG29we.out HG33we.out HG26we.out HGXwe.out) (fun HU => ?_)
              rotate_left
              · intro u hSw
                try dsimp only at hSw
                go_simp
                try (with_reducible rfl)
              clear HU
              try simp only [Act.put, List.getElem_toArray, List.getElem_cons_succ, List.getElem_cons_zero, List.setIfInBounds_toArray, List.set_cons_zero, List.set_cons_succ]
              refine Orders.take (fun _ => True) [] (i := 14) (v := ?_) rfl (by kernel_rfl) (by kernel_rfl) (by kernel_rfl) (fun _ _ _ h => h) (by kernel_rfl) (fun _ _ _ _ => trivial) (by kernel_rfl) (by kernel_rfl) (Or.inl ⟨by rfl, ?_⟩) (HUN.out _ _ HG29we.out HG33we.out HG26we.out HGXwe.out) (fun HU => ?_)
              rotate_left
              · intro u hSw
                try dsimp only at hSw
                go_simp
                try (with_reducible rfl)
              clear HU
              try simp only [Act.put, List.getElem_toArray, List.getElem_cons_succ, List.getElem_cons_zero, List.setIfInBounds_toArray, List.set_cons_zero, List.set_cons_succ]
              refine Orders.take (fun _ => True) [] (i := 15) (v := ?_) rfl (by kernel_rfl) (by kernel_rfl) (by kernel_rfl) (fun _ _ _ h => h) (by kernel_rfl) (fun _ _ _ _ => trivial) (by kernel_rfl) (by kernel_rfl) (Or.inl ⟨by rfl, ?_⟩) (HUN.out _ _ HG29we.out HG33we.out HG26we.out HGXwe.out) (fun HU => ?_)
              rotate_left
              · intro u hSw
                try dsimp only at hSw
                go_simp
                try (with_reducible rfl)
              clear HU
              try simp only [Act.put, List.getElem_toArray, List.getElem_cons_succ, List.getElem_cons_zero, List.setIfInBounds_toArray, List.set_cons_zero, List.set_cons_succ]
              refine Orders.take (fun _ => True) [] (i := 16) (v := ?_) rfl (by kernel_rfl) (by kernel_rfl) (by kernel_rfl) (fun _ _ _ h => h) (by kernel_rfl) (fun _ _ _ _ => trivial) (by kernel_rfl) (by kernel_rfl) (Or.inl ⟨by rfl, ?_⟩) (HUN.out _ _ HG29we.out HG33we.out HG26we.out HGXwe.out) (fun HU => ?_)
              rotate_left
              · intro u hSw
                try dsimp only at hSw
                go_simp
                try (with_reducible rfl)
              clear HU
              try simp only [Act.put, List.getElem_toArray, List.getElem_cons_succ, List.getElem_cons_zero, List.setIfInBounds_toArray, List.set_cons_zero, List.set_cons_succ]
              refine Orders.take (fun _ => True) [] (i := 17) (v := ?_) rfl (by kernel_rfl) (by kernel_rfl) (by kernel_rfl) (fun _ _ _ h => h) (by kernel_rfl) (fun _ _ _ _ => trivial) (by kernel_rfl) (by kernel_rfl) (Or.inl ⟨by rfl, ?_⟩) (HUN.out _ _ HG29we.out HG33we.out HG26we.out HGXwe.out) (fun HU => ?_)
              rotate_left
              · intro u hSw
                try dsimp only at hSw
                go_simp
                try (with_reducible rfl)
              clear HU
              try simp only [Act.put, List.getElem_toArray, List.getElem_cons_succ, List.getElem_cons_zero, List.setIfInBounds_toArray, List.set_cons_zero, List.set_cons_succ]
              refine Orders.take (fun _ => True) [] (i := 18) (v := ?_) rfl (by kernel_rfl) (by kernel_rfl) (by kernel_rfl) (fun _ _ _ h => h) (by kernel_rfl) (fun _ _ _ _ => trivial) (by kernel_rfl) (by kernel_rfl) (Or.inl ⟨by rfl, ?_⟩) (HUN.out _ _ HG29we.out HG33we.out HG26we.out HGXwe.out) (fun HU => ?_)
              rotate_left
              · intro u hSw
                try dsimp only at hSw
                go_simp
                try (with_reducible rfl)
              clear HU
              try simp only [Act.put, List.getElem_toArray, List.getElem_cons_succ, List.getElem_cons_zero, List.setIfInBounds_toArray, List.set_cons_zero, List.set_cons_succ]
              refine Orders.take (fun _ => True) [] (i := 19) (v := ?_) rfl (by kernel_rfl) (by kernel_rfl) (by kernel_rfl) (fun _ _ _ h => h) (by kernel_rfl) (fun _ _ _ _ => trivial) (by kernel_rfl) (by kernel_rfl) (Or.inl ⟨by rfl, ?_⟩) (HUN.out _ _ HG29we.out HG33we.out HG26we.out HGXwe.out) (fun HU => ?_)
              rotate_left
              · intro u hSw
                try dsimp only at hSw
                go_simp
                try (with_reducible rfl)
              clear HU
              try simp only [Act.put, List.getElem_toArray, List.getElem_cons_succ, List.getElem_cons_zero, List.setIfInBounds_toArray, List.set_cons_zero, List.set_cons_succ]
              refine Orders.take (fun _ => True) [] (i := 20) (v := ?_) rfl (by kernel_rfl) (by kernel_rfl) (by kernel_rfl) (fun _ _ _ h => h) (by kernel_rfl) (fun _ _ _ _ => trivial) (by kernel_rfl) (by kernel_rfl) (Or.inl ⟨by rfl, ?_⟩) (HUN.out _ _ HG29we.out HG33we.out HG26we.out HGXwe.out) (fun HU => ?_)
              rotate_left
              · intro u hSw
                try dsimp only at hSw
                go_simp
                try (with_reducible rfl)
              clear HU
              try simp only [Act.put, List.getElem_toArray, List.getElem_cons_succ, List.getElem_cons_zero, List.setIfInBounds_toArray, List.set_cons_zero, List.set_cons_succ]
              refine Orders.take (fun w' => w'.cell? ⟨g26, 0, none⟩ = some (.int .u8 kq.node) ∧ w'.cell? ⟨g26, 1, none⟩ = some (.int .u32 kq.epoch) ∧ w'.cell? ⟨g26, 2, none⟩ = some (.int .u32 kq.life) ∧ w'.cell? ⟨g26, 3, none⟩ = some (.int .u32 (kq.seq : Int)) ∧ w'.cell? ⟨g26, 4, none⟩ = some (.int .u32 (kq.ack : Int)) ∧ w'.cell? ⟨g26, 5, none⟩ = some (.bool kq.plain) ∧ w'.cell? ⟨g26, 6, none⟩ = some (.slice va kq.data.length vc)) [25] (i := 21) (v := ?_) rfl (by kernel_rfl) (by kernel_rfl) (by kernel_rfl) (fun _ _ _ h => h) (by kernel_rfl) (fun L u hd h => h (25, (fun w' => w'.cell? ⟨g26, 0, none⟩ = some (.int .u8 kq.node) ∧ w'.cell? ⟨g26, 1, none⟩ = some (.int .u32 kq.epoch) ∧ w'.cell? ⟨g26, 2, none⟩ = some (.int .u32 kq.life) ∧ w'.cell? ⟨g26, 3, none⟩ = some (.int .u32 (kq.seq : Int)) ∧ w'.cell? ⟨g26, 4, none⟩ = some (.int .u32 (kq.ack : Int)) ∧ w'.cell? ⟨g26, 5, none⟩ = some (.bool kq.plain) ∧ w'.cell? ⟨g26, 6, none⟩ = some (.slice va kq.data.length vc))) (by simp) (hd 25 (by simp))) (by kernel_rfl) (by kernel_rfl) (Or.inl ⟨by rfl, ?_⟩) (HUN.out _ _ HG29we.out HG33we.out HG26we.out HGXwe.out) (fun HU => ?_)
              rotate_left
              · intro u hSw
                try dsimp only at hSw
                obtain ⟨s0, s1, s2, s3, s4, s5, s6⟩ := hSw
                go_simp
                try (with_reducible rfl)
              clear HU
              try simp only [Act.put, List.getElem_toArray, List.getElem_cons_succ, List.getElem_cons_zero, List.setIfInBounds_toArray, List.set_cons_zero, List.set_cons_succ]
              refine Orders.take (fun _ => True) [] (i := 22) (v := ?_) rfl (by kernel_rfl) (by kernel_rfl) (by kernel_rfl) (fun _ _ _ h => h) (by kernel_rfl) (fun _ _ _ _ => trivial) (by kernel_rfl) (by kernel_rfl) (Or.inl ⟨by rfl, ?_⟩) (HUN.out _ _ HG29we.out HG33we.out HG26we.out HGXwe.out) (fun HU => ?_)
              rotate_left
              · intro u hSw
                try dsimp only at hSw
                go_simp
                try (with_reducible rfl)
              clear HU
              try simp only [Act.put, List.getElem_toArray, List.getElem_cons_succ, List.getElem_cons_zero, List.setIfInBounds_toArray, List.set_cons_zero, List.set_cons_succ]
              refine Orders.take (fun w' => w'.cell? ⟨gx, 2, none⟩ = some (.int .u8 kq.node) ∧ w'.cell? ⟨gx, 3, none⟩ = some (.int .u32 kq.epoch) ∧ w'.cell? ⟨gx, 4, none⟩ = some (.int .u32 kq.life) ∧ w'.cell? ⟨gx, 5, none⟩ = some (.int .u32 (kq.seq : Int)) ∧ w'.cell? ⟨gx, 6, none⟩ = some (.int .u32 (kq.ack : Int)) ∧ w'.cell? ⟨gx, 7, none⟩ = some (.bool kq.plain) ∧ w'.cell? ⟨gx, 8, none⟩ = some (.slice A2 L2 C2)) [24] (i := 23) (v := ?_) rfl (by kernel_rfl) (by kernel_rfl) (by kernel_rfl) (fun _ _ _ h => h) (by kernel_rfl) (fun L u hd h => h (24, (fun w' => w'.cell? ⟨gx, 2, none⟩ = some (.int .u8 kq.node) ∧ w'.cell? ⟨gx, 3, none⟩ = some (.int .u32 kq.epoch) ∧ w'.cell? ⟨gx, 4, none⟩ = some (.int .u32 kq.life) ∧ w'.cell? ⟨gx, 5, none⟩ = some (.int .u32 (kq.seq : Int)) ∧ w'.cell? ⟨gx, 6, none⟩ = some (.int .u32 (kq.ack : Int)) ∧ w'.cell? ⟨gx, 7, none⟩ = some (.bool kq.plain) ∧ w'.cell? ⟨gx, 8, none⟩ = some (.slice A2 L2 C2))) (by simp) (hd 24 (by simp))) (by kernel_rfl) (by kernel_rfl) (Or.inl ⟨by rfl, ?_⟩) (HUN.out _ _ HG29we.out HG33we.out HG26we.out HGXwe.out) (fun HU => ?_)
              rotate_left
              · intro u hSw
                try dsimp only at hSw
                obtain ⟨s0, s1, s2, s3, s4, s5, s6⟩ := hSw
                go_simp
                try (with_reducible rfl)
              clear HU
              try simp only [Act.put, List.getElem_toArray, List.getElem_cons_succ, List.getElem_cons_zero, List.setIfInBounds_toArray, List.set_cons_zero, List.set_cons_succ]
              refine Orders.one (i := 24) (by kernel_rfl) rfl (fun K hK => ?_)
              go_simp
              refine (few_any kq A2 L2 C2 we HCK.out.min HCK.out.l1 HCK.out.l2 HCK.out.l3 HCK.out.l4 HCK.out.len (HCK.out.rd.below (HB9.out.trans (HBBwe.out.mono HB9.out.size)))).mono ?_
              rintro e wf ⟨vz, vy, rfl, hoz, hb⟩
              have DZ := hid hoz
              clear hoz
              have HBxwf := hid hb
              have HG29wf := hid ((hb.block g29 (Array.getElem?_eq_some_iff.1 HG29we.out).1).trans HG29we.out)
              have HG33wf := hid ((hb.block g33 (Array.getElem?_eq_some_iff.1 HG33we.out).1).trans HG33we.out)
              have HG26wf := hid ((hb.block g26 (Array.getElem?_eq_some_iff.1 HG26we.out).1).trans HG26we.out)
              have HGXwf := hid ((hb.block gx (Array.getElem?_eq_some_iff.1 HGXwe.out).1).trans HGXwe.out)
              have HBBwf := hid (HBBwe.out.trans (hb.mono HBBwe.out.size))
              clear hb
              refine hK.out _ _ (HUN.out _ _ HG29wf.out HG33wf.out HG26wf.out HGXwf.out) (fun HU => ?_)
              clear hK K HU
              try simp only [Act.put, List.getElem_toArray, List.getElem_cons_succ, List.getElem_cons_zero, List.setIfInBounds_toArray, List.set_cons_zero, List.set_cons_succ]
              refine Orders.one (i := 25) (by kernel_rfl) rfl (fun K hK => ?_)
              go_simp
              refine (samepk_eq kq va vz vc vy wf (DV.out.below HBBwf.out).rd DZ.out.rd).mono ?_
              rintro e wg ⟨rfl, hb⟩
              have HBxwg := hid hb
              have HG29wg := hid ((hb.block g29 (Array.getElem?_eq_some_iff.1 HG29wf.out).1).trans HG29wf.out)
              have HG33wg := hid ((hb.block g33 (Array.getElem?_eq_some_iff.1 HG33wf.out).1).trans HG33wf.out)
              have HG26wg := hid ((hb.block g26 (Array.getElem?_eq_some_iff.1 HG26wf.out).1).trans HG26wf.out)
              have HGXwg := hid ((hb.block gx (Array.getElem?_eq_some_iff.1 HGXwf.out).1).trans HGXwf.out)
              have HBBwg := hid (HBBwf.out.trans (hb.mono HBBwf.out.size))
              clear hb
              refine hK.out _ _ (HUN.out _ _ HG29wg.out HG33wg.out HG26wg.out HGXwg.out) (fun HU => ?_)
              clear hK K HU
              try simp only [Act.put, List.getElem_toArray, List.getElem_cons_succ, List.getElem_cons_zero, List.setIfInBounds_toArray, List.set_cons_zero, List.set_cons_succ]
              refine Orders.take (fun _ => True) [] (i := 26) (v := ?_) rfl (by kernel_rfl) (by kernel_rfl) (by kernel_rfl) (fun _ _ _ h => h) (by kernel_rfl) (fun _ _ _ _ => trivial) (by kernel_rfl) (by kernel_rfl) (Or.inl ⟨by rfl, ?_⟩) (HUN.out _ _ HG29wg.out HG33wg.out HG26wg.out HGXwg.out) (fun HU => ?_)
              rotate_left
              · intro u hSw
                try dsimp only at hSw
                go_simp
                try (with_reducible rfl)
              clear HU
              try simp only [Act.put, List.getElem_toArray, List.getElem_cons_succ, List.getElem_cons_zero, List.setIfInBounds_toArray, List.set_cons_zero, List.set_cons_succ]
              refine Orders.take (fun _ => True) [] (i := 27) (v := ?_) rfl (by kernel_rfl) (by kernel_rfl) (by kernel_rfl) (fun _ _ _ h => h) (by kernel_rfl) (fun _ _ _ _ => trivial) (by kernel_rfl) (by kernel_rfl) (Or.inl ⟨by rfl, ?_⟩) (HUN.out _ _ HG29wg.out HG33wg.out HG26wg.out HGXwg.out) (fun HU => ?_)
              rotate_left
              · intro u hSw
                try dsimp only at hSw
                go_simp
                try (with_reducible rfl)
              clear HU
              try simp only [Act.put, List.getElem_toArray, List.getElem_cons_succ, List.getElem_cons_zero, List.setIfInBounds_toArray, List.set_cons_zero, List.set_cons_succ]
              refine Orders.ends (by kernel_rfl) ?_ _
              go_wp2_with fail
              go_meet
              case rel => exact HB9.out.trans (HBBwg.out.mono HB9.out.size)
        case rest =>
          have HB' := hid hcut
          clear hcut
          go_wp2_with (first
            | (go_at_call 23; refine (open_nil wc).mono ?_; rintro e wz ⟨rfl, rfl⟩)
            | (go_at_call 24; refine (heard_nil wc).mono ?_; rintro e wz ⟨rfl, rfl⟩)
            | fail)
          go_roundw
          case rel => exact ⟨k + 1, HLT.out, HK80.out, by go_num, HB'.out⟩
          case measure => have := HLT.out; simp [intOf]; omega
      · have h80i : (80 : Int) ≤ (k : Int) := by omega
        clear h80
        go_wp2_with (first
          | (refine wpList_load_mid rfl 33 (.tmp 53) rfl ob (off + k * 9) rfl _ _ HRG.out Try.underlying33 rfl (by rw [size_op10]; rfl) ?_)
          | (refine op_fresh rfl (.tmp 14) (.tmp 54) rfl wr #[.int .u8 (d : Int), .slice A L C, .int .u8 kq.node, .int .u32 kq.epoch, .int .u32 kq.life, .int .u32 (kq.seq : Int), .int .u32 (kq.ack : Int), .bool kq.plain, .slice A2 L2 C2] rfl rfl rfl (by simp [Value.oneCell']) ?_; intro wo hgo hbo; have HBO := hid hbo; clear hgo hbo)
          | fail)
        go_ret
        exact ⟨rfl, HB.out.trans (HBO.out.mono HB.out.size)⟩
    · obtain rfl : k = L0 := by omega
      go_wp2_with fail
      go_ret
      exact ⟨rfl, HB.out⟩

end Go.Proofs.Ytjpojlkdogaalaa
