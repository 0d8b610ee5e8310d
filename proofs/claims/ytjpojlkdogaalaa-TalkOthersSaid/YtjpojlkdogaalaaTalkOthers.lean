/-
  What is of another node, epoch or life, or plain, does nothing, whatever it says: for all things said and every packet. No condition.
  (The frame behind the walk is the guide's shell, at these parameters.)
-/
import Derived.Test.YtjpojlkdogaalaaRows
import Derived.WalkKit
import Derived.Test.YtjpojlkdogaalaaTalkR
import Derived.ProofKit
import Derived.Deep.Cut
import Derived.Deep.CutRange
import Derived.Deep.CutBlock
import Derived.Deep.Grids
import Derived.OpenShut
import Derived.ShutString
import Derived.ChangeOld
import Derived.Below
namespace Go.Proofs.Ytjpojlkdogaalaa.talkOthers
open Go.ChangeShapes Go.WideShapes Go.ChangeAt Go.RowKit
open Go.ChangeMaps (open_string shut_string)
set_option linter.unusedVariables false

theorem own : ownKnob Try.prog.godebug = none := by kernel_rfl
theorem laidOut : laidOutB Try.prog = true := by kernel_rfl

set_option maxRecDepth 100000 in
set_option maxHeartbeats 8000000 in
theorem walk (a0 : Option Addr) (len0 cap0 : Nat) (v1 : Value) (w : World) (w0 : IsMat w a0 len0 cap0) (w1 : IsPk w v1) :
    Calls Try.prog 5 #[.slice a0 len0 cap0, v1] w fun e w' => e = .returned (.bool true) ∧ Below w.heap.size w w' := by
  obtain ⟨k, A9, L9, C9, rfl, hkb, hkl, k1, k2, k3, k4, k5, hkr⟩ := w1.open' 60
  rw [show ((60 : Nat) : Int) = 60 from rfl] at k1
  obtain ⟨wb, hwb⟩ : ∃ wb, wb = w.alloc (.cells #[.int .u8 k.node, .int .u32 k.epoch, .int .u32 k.life, .int .u32 (k.seq : Int), .int .u32 (k.ack : Int), .bool k.plain, .slice A9 L9 C9] 31) := ⟨_, rfl⟩
  obtain ⟨gb, hbb, _⟩ := box_facts _ _ _ _ _ _ _ _ wb hwb
  have HSB := hid (show wb.heap.size = w.heap.size + 1 by rw [hwb]; simp)
  obtain ⟨ts, htl, htc, hrows⟩ := w0.rows' 40
  have hlb := w0.bounds
  have HR := hid (show ∀ r t, ts[r]? = some t → ∃ b off, a0 = some ⟨b, off, none⟩ ∧ b < wb.heap.size ∧ MatRow wb b off 40 r t from fun r t h => by
    obtain ⟨b, off, e, h1, A', L', C', h2, h3, h4, h5, h6⟩ := hrows r t h
    exact ⟨b, off, e, Nat.lt_of_lt_of_le h1 hbb.size, A', L', C', (hbb.cell (p := ⟨b, off + r, none⟩) h1).trans h2, h3, h4, h5, h6.below hbb⟩)
  have HTL := hid htl
  have HTC := hid htc
  have hl0 : len0 ≤ 9223372036854775807 := by omega
  have HKB := hid hkb
  have HKL := hid hkl
  have HK1 := hid k1
  have HK2 := hid k2
  have HK3 := hid k3
  have HK4 := hid k4
  have HK5 := hid k5
  have HKR := hid (hkr.below hbb)
  have HGB := hid gb
  have HBB := hid hbb
  have HWB := hid hwb
  clear w0 w1 hrows htl htc gb hbb hwb hkb hkl k1 k2 k3 k4 k5 hkr
  go_enter Try.func5, Try.ntmps5
  go_upto_region 1 with (fail)
  rw [← HWB.out]
  go_wp2_with fail
  refine (awake10_any wb).mono ?_
  rintro e wa ⟨rfl, hba⟩
  have HBA := hid hba
  have hsa := hba.size
  clear hba
  go_wp2_with fail
  refine (talknew_any 2 3 4 wa wb.heap.size hsa).mono ?_
  rintro e w1 ⟨rfl, h1, hb1⟩
  rw [tl_new _ _ _ ts] at h1
  have H1 := hid (show TkAt w1 wb.heap.size wa.heap.size (tl 2 3 4 ts 0 0) from h1)
  have K1 := hid ((KT.of_below (ts := talkTs) HBA.out (Nat.le_refl _)).trans (KT.of_below hb1 hsa))
  obtain ⟨b, hb⟩ : ∃ b, b = wa.heap.size := ⟨_, rfl⟩
  rw [← hb] at H1
  rw [← hb]
  clear h1 hb1 hb
  go_wp2_with fail
  go_loopw [18] (fun i wr => ∃ j : Nat, j ≤ len0 ∧ i = .int .i64 j ∧ TkAt wr wb.heap.size b (tl 2 3 4 ts (min j 30) 0) ∧ KT talkTs wb.heap.size wb wr) (fun i _ => len0 - (intOf i).toNat)
  case atStart => exact ⟨0, Nat.zero_le _, rfl, by rw [show min 0 30 = 0 from rfl]; exact H1.out, K1.out⟩
  case round =>
    obtain ⟨j, hj, rfl, hA, hK⟩ := hrel
    have HA := hid hA
    have HK := hid hK
    have hsr := hK.size
    clear hA hK
    by_cases hlt : j < len0
    · obtain ⟨t, ht⟩ : ∃ t, ts[j]? = some t := ⟨_, List.getElem?_eq_getElem (by rw [HTL.out]; omega)⟩
      obtain ⟨mb, off, hea, hmb, hrow⟩ := HR.out j t ht
      subst hea
      obtain ⟨A, L, C, hc, m40, l1, l2, l3, l4, hrd⟩ := matrow_at hrow
      rw [show ((40 : Nat) : Int) = 40 from rfl] at m40
      have hcell := (HK.out.below.cell (p := ⟨mb, off + j, none⟩) hmb).trans hc
      have HT := hid ht
      have HF := hid (Far.kt (Far.of_low (n := wb.heap.size) hrd (Nat.le_refl _)) HK.out (by decide))
      have HTL2 := hid (HTC.out t (List.mem_of_getElem? ht))
      have hji : (j : Int) < (len0 : Int) := by omega
      clear ht hc hrd hrow
      by_cases h3 : j < 30
      · have e3 : min j 30 = j := by omega
        have e4 : min (j + 1) 30 = j + 1 := by omega
        rw [e3] at HA
        have HE4 := hid e4
        have h3i : (j : Int) < 30 := by omega
        have HJ3 := hid h3
        clear e3 e4 h3
        go_wp2_with fail
        refine (say_yes wb.heap.size b (tl 2 3 4 ts j 0) A C t wr HA.out hsr HF.out (by have := HTL2.out; omega) (by rw [tl_l _ _ _ _ _ _ (by rw [HTL.out]; omega)]; have := HJ3.out; omega) (by rw [tl_all _ _ _ _ _ _ (by rw [HTL.out]; omega)]; have := HJ3.out; omega)).mono ?_
        rintro e w2 ⟨xa, xc, rfl, -, h2, k2⟩
        rw [tl_say _ _ _ _ _ _ t HT.out] at h2
        have H2 := hid h2.free
        have K2 := hid (HK.out.trans k2.kt)
        clear h2 k2
        go_wp2_with fail
        go_roundw
        case rel => exact ⟨j + 1, hlt, by go_num, by rw [HE4.out]; exact H2.out, K2.out⟩
        case measure => simp [intOf]; omega
      · have e3 : min j 30 = 30 := by omega
        have e4 : min (j + 1) 30 = 30 := by omega
        have HE3 := hid e3
        have HE4 := hid e4
        rw [e3] at HA
        have h3i : ¬ (j : Int) < 30 := by omega
        clear e3 e4 h3 m40 l1 l2 l3 l4
        go_wp2_with fail
        go_roundw
        case rel => exact ⟨j + 1, hlt, by go_num, by rw [HE4.out]; exact HA.out, HK.out⟩
        case measure => simp [intOf]; omega
    · obtain rfl : j = len0 := by omega
      obtain ⟨N, hN⟩ : ∃ N, N = min j 30 := ⟨_, rfl⟩
      rw [← hN] at HA
      have HNL := hid (show N ≤ ts.length by rw [HTL.out]; omega)
      have hN30 : N ≤ 30 := by omega
      have HGR := hid (HK.out.block HGB.out (by decide))
      have HBWR := hid (HBB.out.trans (HK.out.below.mono (by have := HSB.out; omega)))
      clear hN hlt
      go_upto_region 12 with (first
        | (go_at_call 23; refine (open_any wb.heap.size b (tl 2 3 4 ts N 0) wr HA.out).mono ?_; rintro e wz ⟨rfl, rfl⟩; rw [tl_l _ _ _ _ _ _ HNL.out, Nat.sub_zero])
        | (refine pk_ld rfl (.tmp 3) rfl w.heap.size rfl _ _ _ _ _ _ _ HGR.out ?_)
        | (go_at_call 18; refine (few_any k A9 L9 C9 wr HK1.out HK2.out HK3.out HK4.out HK5.out HKL.out (HKR.out.below (by exact (HK.out.below)))).mono ?_; rintro e w5 ⟨va, vc, rfl, ho, hb5⟩
           have HO := hid ho
           have HB5 := hid hb5
           have HG5 := hid ((hb5.block w.heap.size (Array.getElem?_eq_some_iff.1 HGR.out).1).trans HGR.out)
           clear ho hb5)
        | (refine pk_st rfl (.tmp 3) (.tmp 36) rfl w.heap.size _ _ _ _ _ _ _ rfl rfl ⟨_, _, _, _, _, _, _, HG5.out⟩ (by simp [Value.oneCell']) ?_)
        | fail)
      obtain ⟨w6, hw6⟩ : ∃ w6, w6 = w5.setRow w.heap.size #[.int .u8 k.node, .int .u32 k.epoch, .int .u32 k.life, .int .u32 (k.seq : Int), .int .u32 (k.ack : Int), .bool k.plain, .slice va k.data.length vc] := ⟨_, rfl⟩
      rw [← hw6]
      have hg6 : w6.heap[w.heap.size]? = some (.cells #[.int .u8 k.node, .int .u32 k.epoch, .int .u32 k.life, .int .u32 (k.seq : Int), .int .u32 (k.ack : Int), .bool k.plain, .slice va k.data.length vc] 31 (0, 0)) := by rw [hw6]; exact PkB.row ⟨_, _, _, _, _, _, _, HG5.out⟩ _ _ _ _ _ _ _
      have hk6 : Keeps (fun q => q = w.heap.size) w5 w6 := by rw [hw6]; exact setRow_keeps _ _ _
      have HG6 := hid hg6
      have HL6 := hid (Array.getElem?_eq_some_iff.1 hg6).1
      have HBW := hid (show Below w.heap.size w w6 from (HBWR.out.trans (HB5.out.mono HBWR.out.size)).trans ⟨hk6.os, hk6.tape, hk6.output, hk6.size, fun i hi => hk6.block i (by have := HBWR.out.size; have := HB5.out.size; omega) (by omega)⟩)
      have H6 := hid (show TkAt w6 wb.heap.size b (tl 2 3 4 ts N 0) from (HA.out.below HB5.out).kt (ts := [31]) (b0 := w.heap.size) (KT.of_keeps hk6 (fun q _ e => by subst e; exact ⟨Nat.le_refl _, _, _, _, HG5.out, by simp⟩) (by have := HBWR.out.size; have := HB5.out.size; omega)) (by decide) (by decide) (by decide))
      have c0 : w6.cell? ⟨w.heap.size, 0, none⟩ = some (.int .u8 k.node) := (cell_of_row _ _ _ _ _ _ hg6).trans rfl
      have c1 : w6.cell? ⟨w.heap.size, 1, none⟩ = some (.int .u32 k.epoch) := (cell_of_row _ _ _ _ _ _ hg6).trans rfl
      have c2 : w6.cell? ⟨w.heap.size, 2, none⟩ = some (.int .u32 k.life) := (cell_of_row _ _ _ _ _ _ hg6).trans rfl
      have c4 : w6.cell? ⟨w.heap.size, 4, none⟩ = some (.int .u32 (k.ack : Int)) := (cell_of_row _ _ _ _ _ _ hg6).trans rfl
      have c5 : w6.cell? ⟨w.heap.size, 5, none⟩ = some (.bool k.plain) := (cell_of_row _ _ _ _ _ _ hg6).trans rfl
      have hka : (k.ack : Int) < 4294967296 := by have := HKB.out; omega
      clear hg6 hk6 hw6
      by_cases h0 : k.node = 2
      · have e0 : (k.node == 2) = true := by rw [beq_iff_eq]; exact h0
        by_cases h1 : k.epoch = 3
        · have e1 : (k.epoch == 3) = true := by rw [beq_iff_eq]; exact h1
          by_cases h2 : k.life = 4
          · have e2 : (k.life == 4) = true := by rw [beq_iff_eq]; exact h2
            by_cases h3 : k.plain = true
            · have HM := hid (show (tl 2 3 4 ts N 0).mine k = false by unfold Tk.mine; simp [h3])
              rw [h3] at c5
              clear h0 h1 h2 h3
              go_wp2_with (first
                | (refine pk_ld rfl (.tmp 3) rfl w.heap.size rfl _ _ _ _ _ _ _ HG6.out ?_)
                | (go_at_call 21; refine (hear_not wb.heap.size b (tl 2 3 4 ts N 0) k va vc w6 H6.out HM.out).mono ?_; rintro e w7 ⟨rfl, hb7⟩; dsimp only
                   have HB7 := hid hb7
                   clear hb7)
                | (refine pk_fresh rfl (.tmp 11) (.tmp 71) rfl w7 (.int .u8 0) (.int .u32 0) (.int .u32 0) (.int .u32 0) (.int .u32 0) (.bool false) (.slice none 0 0) rfl rfl (by simp [Value.oneCell']) ?_; intro w8 hg8 hb8
                   have HG8 := hid hg8
                   have HB8 := hid hb8
                   have HG63 := hid ((hb8.block w.heap.size (Nat.lt_of_lt_of_le HL6.out HB7.out.size)).trans ((HB7.out.block w.heap.size HL6.out).trans HG6.out))
                   have H8 := hid ((H6.out.below HB7.out).below hb8)
                   have q0 : w8.cell? ⟨w7.heap.size, 0, none⟩ = some (.int .u8 0) := (cell_of_row _ _ _ _ _ _ hg8).trans rfl
                   have q1 : w8.cell? ⟨w7.heap.size, 1, none⟩ = some (.int .u32 0) := (cell_of_row _ _ _ _ _ _ hg8).trans rfl
                   have q2 : w8.cell? ⟨w7.heap.size, 2, none⟩ = some (.int .u32 0) := (cell_of_row _ _ _ _ _ _ hg8).trans rfl
                   have q3 : w8.cell? ⟨w7.heap.size, 3, none⟩ = some (.int .u32 0) := (cell_of_row _ _ _ _ _ _ hg8).trans rfl
                   have q4 : w8.cell? ⟨w7.heap.size, 4, none⟩ = some (.int .u32 0) := (cell_of_row _ _ _ _ _ _ hg8).trans rfl
                   have q5 : w8.cell? ⟨w7.heap.size, 5, none⟩ = some (.bool false) := (cell_of_row _ _ _ _ _ _ hg8).trans rfl
                   have q6 : w8.cell? ⟨w7.heap.size, 6, none⟩ = some (.slice none 0 0) := (cell_of_row _ _ _ _ _ _ hg8).trans rfl
                   clear hg8 hb8)
                | (go_at_call 14; refine (samepk_eq Pk.zero none none 0 0 w8 (Rd.nil _) (Rd.nil _)).mono ?_; rintro e w9 ⟨rfl, hb9⟩
                   have HB9 := hid hb9
                   have HG69 := hid ((hb9.block w.heap.size (Nat.lt_of_lt_of_le HL6.out (Nat.le_trans HB7.out.size HB8.out.size))).trans HG63.out)
                   have H9 := hid (H8.out.below hb9)
                   have r0 : w9.cell? ⟨w.heap.size, 0, none⟩ = some (.int .u8 k.node) := (cell_of_row _ _ _ _ _ _ HG69.out).trans rfl
                   have r1 : w9.cell? ⟨w.heap.size, 1, none⟩ = some (.int .u32 k.epoch) := (cell_of_row _ _ _ _ _ _ HG69.out).trans rfl
                   have r2 : w9.cell? ⟨w.heap.size, 2, none⟩ = some (.int .u32 k.life) := (cell_of_row _ _ _ _ _ _ HG69.out).trans rfl
                   have r3 : w9.cell? ⟨w.heap.size, 3, none⟩ = some (.int .u32 (k.seq : Int)) := (cell_of_row _ _ _ _ _ _ HG69.out).trans rfl
                   have r4 : w9.cell? ⟨w.heap.size, 4, none⟩ = some (.int .u32 (k.ack : Int)) := (cell_of_row _ _ _ _ _ _ HG69.out).trans rfl
                   have r5 : w9.cell? ⟨w.heap.size, 5, none⟩ = some (.bool k.plain) := (cell_of_row _ _ _ _ _ _ HG69.out).trans rfl
                   have r6 : w9.cell? ⟨w.heap.size, 6, none⟩ = some (.slice va k.data.length vc) := (cell_of_row _ _ _ _ _ _ HG69.out).trans rfl
                   clear q0 q1 q2 q3 q4 q5 q6 hb9)
                | (go_at_call 23; refine (open_any wb.heap.size b (tl 2 3 4 ts N 0) w9 H9.out).mono ?_; rintro e wz ⟨rfl, rfl⟩; rw [tl_l _ _ _ _ _ _ HNL.out])
                | (go_at_call 24; refine (heard_any wb.heap.size b (tl 2 3 4 ts N 0) w9 H9.out).mono ?_; rintro e wz ⟨rfl, rfl⟩; rw [tl_heard])
                | (go_at_call 19; refine (mine_any wb.heap.size b (tl 2 3 4 ts N 0) k va k.data.length vc w9 H9.out).mono ?_; rintro e w10 ⟨rfl, hb10⟩; rw [HM.out]; have HB10 := hid hb10; clear hb10)
                | fail)
              go_ret
              exact ⟨rfl, (((HBW.out.trans (HB7.out.mono HBW.out.size)).trans (HB8.out.mono (Nat.le_trans HBW.out.size HB7.out.size))).trans (HB9.out.mono (Nat.le_trans HBW.out.size (Nat.le_trans HB7.out.size HB8.out.size)))).trans (HB10.out.mono (Nat.le_trans HBW.out.size (Nat.le_trans HB7.out.size (Nat.le_trans HB8.out.size HB9.out.size))))⟩
            · have h3' : k.plain = false := by simpa using h3
              rw [h3'] at c5
              by_cases h4 : k.ack ≤ N
              · have e4 : (k.ack : Int) ≤ (N : Int) := by omega
                have HM := hid (show (tl 2 3 4 ts N 0).mine k = true by unfold Tk.mine; rw [tl_all _ _ _ _ _ _ HNL.out]; simp [tl, h0, h1, h2, h3', h4])
                clear h0 h1 h2 h3 h3' h4
                go_wp2_with (first | (refine pk_ld rfl (.tmp 3) rfl w.heap.size rfl _ _ _ _ _ _ _ HG6.out ?_) | (go_at_call 19; refine (mine_any wb.heap.size b (tl 2 3 4 ts N 0) k va k.data.length vc w6 H6.out).mono ?_; rintro e w7 ⟨rfl, hb7⟩; rw [HM.out]; have HB7 := hid hb7; clear hb7) | fail)
                go_ret
                exact ⟨rfl, HBW.out.trans (HB7.out.mono HBW.out.size)⟩
              · have e4 : ¬ (k.ack : Int) ≤ (N : Int) := by omega
                have HM := hid (show (tl 2 3 4 ts N 0).mine k = false by unfold Tk.mine; rw [tl_all _ _ _ _ _ _ HNL.out]; simp [h4])
                clear h0 h1 h2 h3 h3' h4
                go_wp2_with (first
                  | (refine pk_ld rfl (.tmp 3) rfl w.heap.size rfl _ _ _ _ _ _ _ HG6.out ?_)
                  | (go_at_call 21; refine (hear_not wb.heap.size b (tl 2 3 4 ts N 0) k va vc w6 H6.out HM.out).mono ?_; rintro e w7 ⟨rfl, hb7⟩; dsimp only
                     have HB7 := hid hb7
                     clear hb7)
                  | (refine pk_fresh rfl (.tmp 11) (.tmp 71) rfl w7 (.int .u8 0) (.int .u32 0) (.int .u32 0) (.int .u32 0) (.int .u32 0) (.bool false) (.slice none 0 0) rfl rfl (by simp [Value.oneCell']) ?_; intro w8 hg8 hb8
                     have HG8 := hid hg8
                     have HB8 := hid hb8
                     have HG63 := hid ((hb8.block w.heap.size (Nat.lt_of_lt_of_le HL6.out HB7.out.size)).trans ((HB7.out.block w.heap.size HL6.out).trans HG6.out))
                     have H8 := hid ((H6.out.below HB7.out).below hb8)
                     have q0 : w8.cell? ⟨w7.heap.size, 0, none⟩ = some (.int .u8 0) := (cell_of_row _ _ _ _ _ _ hg8).trans rfl
                     have q1 : w8.cell? ⟨w7.heap.size, 1, none⟩ = some (.int .u32 0) := (cell_of_row _ _ _ _ _ _ hg8).trans rfl
                     have q2 : w8.cell? ⟨w7.heap.size, 2, none⟩ = some (.int .u32 0) := (cell_of_row _ _ _ _ _ _ hg8).trans rfl
                     have q3 : w8.cell? ⟨w7.heap.size, 3, none⟩ = some (.int .u32 0) := (cell_of_row _ _ _ _ _ _ hg8).trans rfl
                     have q4 : w8.cell? ⟨w7.heap.size, 4, none⟩ = some (.int .u32 0) := (cell_of_row _ _ _ _ _ _ hg8).trans rfl
                     have q5 : w8.cell? ⟨w7.heap.size, 5, none⟩ = some (.bool false) := (cell_of_row _ _ _ _ _ _ hg8).trans rfl
                     have q6 : w8.cell? ⟨w7.heap.size, 6, none⟩ = some (.slice none 0 0) := (cell_of_row _ _ _ _ _ _ hg8).trans rfl
                     clear hg8 hb8)
                  | (go_at_call 14; refine (samepk_eq Pk.zero none none 0 0 w8 (Rd.nil _) (Rd.nil _)).mono ?_; rintro e w9 ⟨rfl, hb9⟩
                     have HB9 := hid hb9
                     have HG69 := hid ((hb9.block w.heap.size (Nat.lt_of_lt_of_le HL6.out (Nat.le_trans HB7.out.size HB8.out.size))).trans HG63.out)
                     have H9 := hid (H8.out.below hb9)
                     have r0 : w9.cell? ⟨w.heap.size, 0, none⟩ = some (.int .u8 k.node) := (cell_of_row _ _ _ _ _ _ HG69.out).trans rfl
                     have r1 : w9.cell? ⟨w.heap.size, 1, none⟩ = some (.int .u32 k.epoch) := (cell_of_row _ _ _ _ _ _ HG69.out).trans rfl
                     have r2 : w9.cell? ⟨w.heap.size, 2, none⟩ = some (.int .u32 k.life) := (cell_of_row _ _ _ _ _ _ HG69.out).trans rfl
                     have r3 : w9.cell? ⟨w.heap.size, 3, none⟩ = some (.int .u32 (k.seq : Int)) := (cell_of_row _ _ _ _ _ _ HG69.out).trans rfl
                     have r4 : w9.cell? ⟨w.heap.size, 4, none⟩ = some (.int .u32 (k.ack : Int)) := (cell_of_row _ _ _ _ _ _ HG69.out).trans rfl
                     have r5 : w9.cell? ⟨w.heap.size, 5, none⟩ = some (.bool k.plain) := (cell_of_row _ _ _ _ _ _ HG69.out).trans rfl
                     have r6 : w9.cell? ⟨w.heap.size, 6, none⟩ = some (.slice va k.data.length vc) := (cell_of_row _ _ _ _ _ _ HG69.out).trans rfl
                     clear q0 q1 q2 q3 q4 q5 q6 hb9)
                  | (go_at_call 23; refine (open_any wb.heap.size b (tl 2 3 4 ts N 0) w9 H9.out).mono ?_; rintro e wz ⟨rfl, rfl⟩; rw [tl_l _ _ _ _ _ _ HNL.out])
                  | (go_at_call 24; refine (heard_any wb.heap.size b (tl 2 3 4 ts N 0) w9 H9.out).mono ?_; rintro e wz ⟨rfl, rfl⟩; rw [tl_heard])
                  | (go_at_call 19; refine (mine_any wb.heap.size b (tl 2 3 4 ts N 0) k va k.data.length vc w9 H9.out).mono ?_; rintro e w10 ⟨rfl, hb10⟩; rw [HM.out]; have HB10 := hid hb10; clear hb10)
                  | fail)
                go_ret
                exact ⟨rfl, (((HBW.out.trans (HB7.out.mono HBW.out.size)).trans (HB8.out.mono (Nat.le_trans HBW.out.size HB7.out.size))).trans (HB9.out.mono (Nat.le_trans HBW.out.size (Nat.le_trans HB7.out.size HB8.out.size)))).trans (HB10.out.mono (Nat.le_trans HBW.out.size (Nat.le_trans HB7.out.size (Nat.le_trans HB8.out.size HB9.out.size))))⟩
          · have e2 : (k.life == 4) = false := by rw [beq_eq_false_iff_ne]; exact h2
            have HM := hid (show (tl 2 3 4 ts N 0).mine k = false by unfold Tk.mine; simp [tl, h2])
            clear h0 h1 h2
            go_wp2_with (first
              | (refine pk_ld rfl (.tmp 3) rfl w.heap.size rfl _ _ _ _ _ _ _ HG6.out ?_)
              | (go_at_call 21; refine (hear_not wb.heap.size b (tl 2 3 4 ts N 0) k va vc w6 H6.out HM.out).mono ?_; rintro e w7 ⟨rfl, hb7⟩; dsimp only
                 have HB7 := hid hb7
                 clear hb7)
              | (refine pk_fresh rfl (.tmp 11) (.tmp 71) rfl w7 (.int .u8 0) (.int .u32 0) (.int .u32 0) (.int .u32 0) (.int .u32 0) (.bool false) (.slice none 0 0) rfl rfl (by simp [Value.oneCell']) ?_; intro w8 hg8 hb8
                 have HG8 := hid hg8
                 have HB8 := hid hb8
                 have HG63 := hid ((hb8.block w.heap.size (Nat.lt_of_lt_of_le HL6.out HB7.out.size)).trans ((HB7.out.block w.heap.size HL6.out).trans HG6.out))
                 have H8 := hid ((H6.out.below HB7.out).below hb8)
                 have q0 : w8.cell? ⟨w7.heap.size, 0, none⟩ = some (.int .u8 0) := (cell_of_row _ _ _ _ _ _ hg8).trans rfl
                 have q1 : w8.cell? ⟨w7.heap.size, 1, none⟩ = some (.int .u32 0) := (cell_of_row _ _ _ _ _ _ hg8).trans rfl
                 have q2 : w8.cell? ⟨w7.heap.size, 2, none⟩ = some (.int .u32 0) := (cell_of_row _ _ _ _ _ _ hg8).trans rfl
                 have q3 : w8.cell? ⟨w7.heap.size, 3, none⟩ = some (.int .u32 0) := (cell_of_row _ _ _ _ _ _ hg8).trans rfl
                 have q4 : w8.cell? ⟨w7.heap.size, 4, none⟩ = some (.int .u32 0) := (cell_of_row _ _ _ _ _ _ hg8).trans rfl
                 have q5 : w8.cell? ⟨w7.heap.size, 5, none⟩ = some (.bool false) := (cell_of_row _ _ _ _ _ _ hg8).trans rfl
                 have q6 : w8.cell? ⟨w7.heap.size, 6, none⟩ = some (.slice none 0 0) := (cell_of_row _ _ _ _ _ _ hg8).trans rfl
                 clear hg8 hb8)
              | (go_at_call 14; refine (samepk_eq Pk.zero none none 0 0 w8 (Rd.nil _) (Rd.nil _)).mono ?_; rintro e w9 ⟨rfl, hb9⟩
                 have HB9 := hid hb9
                 have HG69 := hid ((hb9.block w.heap.size (Nat.lt_of_lt_of_le HL6.out (Nat.le_trans HB7.out.size HB8.out.size))).trans HG63.out)
                 have H9 := hid (H8.out.below hb9)
                 have r0 : w9.cell? ⟨w.heap.size, 0, none⟩ = some (.int .u8 k.node) := (cell_of_row _ _ _ _ _ _ HG69.out).trans rfl
                 have r1 : w9.cell? ⟨w.heap.size, 1, none⟩ = some (.int .u32 k.epoch) := (cell_of_row _ _ _ _ _ _ HG69.out).trans rfl
                 have r2 : w9.cell? ⟨w.heap.size, 2, none⟩ = some (.int .u32 k.life) := (cell_of_row _ _ _ _ _ _ HG69.out).trans rfl
                 have r3 : w9.cell? ⟨w.heap.size, 3, none⟩ = some (.int .u32 (k.seq : Int)) := (cell_of_row _ _ _ _ _ _ HG69.out).trans rfl
                 have r4 : w9.cell? ⟨w.heap.size, 4, none⟩ = some (.int .u32 (k.ack : Int)) := (cell_of_row _ _ _ _ _ _ HG69.out).trans rfl
                 have r5 : w9.cell? ⟨w.heap.size, 5, none⟩ = some (.bool k.plain) := (cell_of_row _ _ _ _ _ _ HG69.out).trans rfl
                 have r6 : w9.cell? ⟨w.heap.size, 6, none⟩ = some (.slice va k.data.length vc) := (cell_of_row _ _ _ _ _ _ HG69.out).trans rfl
                 clear q0 q1 q2 q3 q4 q5 q6 hb9)
              | (go_at_call 23; refine (open_any wb.heap.size b (tl 2 3 4 ts N 0) w9 H9.out).mono ?_; rintro e wz ⟨rfl, rfl⟩; rw [tl_l _ _ _ _ _ _ HNL.out])
              | (go_at_call 24; refine (heard_any wb.heap.size b (tl 2 3 4 ts N 0) w9 H9.out).mono ?_; rintro e wz ⟨rfl, rfl⟩; rw [tl_heard])
              | (go_at_call 19; refine (mine_any wb.heap.size b (tl 2 3 4 ts N 0) k va k.data.length vc w9 H9.out).mono ?_; rintro e w10 ⟨rfl, hb10⟩; rw [HM.out]; have HB10 := hid hb10; clear hb10)
              | fail)
            go_ret
            exact ⟨rfl, (((HBW.out.trans (HB7.out.mono HBW.out.size)).trans (HB8.out.mono (Nat.le_trans HBW.out.size HB7.out.size))).trans (HB9.out.mono (Nat.le_trans HBW.out.size (Nat.le_trans HB7.out.size HB8.out.size)))).trans (HB10.out.mono (Nat.le_trans HBW.out.size (Nat.le_trans HB7.out.size (Nat.le_trans HB8.out.size HB9.out.size))))⟩
        · have e1 : (k.epoch == 3) = false := by rw [beq_eq_false_iff_ne]; exact h1
          have HM := hid (show (tl 2 3 4 ts N 0).mine k = false by unfold Tk.mine; simp [tl, h1])
          clear h0 h1
          go_wp2_with (first
            | (refine pk_ld rfl (.tmp 3) rfl w.heap.size rfl _ _ _ _ _ _ _ HG6.out ?_)
            | (go_at_call 21; refine (hear_not wb.heap.size b (tl 2 3 4 ts N 0) k va vc w6 H6.out HM.out).mono ?_; rintro e w7 ⟨rfl, hb7⟩; dsimp only
               have HB7 := hid hb7
               clear hb7)
            | (refine pk_fresh rfl (.tmp 11) (.tmp 71) rfl w7 (.int .u8 0) (.int .u32 0) (.int .u32 0) (.int .u32 0) (.int .u32 0) (.bool false) (.slice none 0 0) rfl rfl (by simp [Value.oneCell']) ?_; intro w8 hg8 hb8
               have HG8 := hid hg8
               have HB8 := hid hb8
               have HG63 := hid ((hb8.block w.heap.size (Nat.lt_of_lt_of_le HL6.out HB7.out.size)).trans ((HB7.out.block w.heap.size HL6.out).trans HG6.out))
               have H8 := hid ((H6.out.below HB7.out).below hb8)
               have q0 : w8.cell? ⟨w7.heap.size, 0, none⟩ = some (.int .u8 0) := (cell_of_row _ _ _ _ _ _ hg8).trans rfl
               have q1 : w8.cell? ⟨w7.heap.size, 1, none⟩ = some (.int .u32 0) := (cell_of_row _ _ _ _ _ _ hg8).trans rfl
               have q2 : w8.cell? ⟨w7.heap.size, 2, none⟩ = some (.int .u32 0) := (cell_of_row _ _ _ _ _ _ hg8).trans rfl
               have q3 : w8.cell? ⟨w7.heap.size, 3, none⟩ = some (.int .u32 0) := (cell_of_row _ _ _ _ _ _ hg8).trans rfl
               have q4 : w8.cell? ⟨w7.heap.size, 4, none⟩ = some (.int .u32 0) := (cell_of_row _ _ _ _ _ _ hg8).trans rfl
               have q5 : w8.cell? ⟨w7.heap.size, 5, none⟩ = some (.bool false) := (cell_of_row _ _ _ _ _ _ hg8).trans rfl
               have q6 : w8.cell? ⟨w7.heap.size, 6, none⟩ = some (.slice none 0 0) := (cell_of_row _ _ _ _ _ _ hg8).trans rfl
               clear hg8 hb8)
            | (go_at_call 14; refine (samepk_eq Pk.zero none none 0 0 w8 (Rd.nil _) (Rd.nil _)).mono ?_; rintro e w9 ⟨rfl, hb9⟩
               have HB9 := hid hb9
               have HG69 := hid ((hb9.block w.heap.size (Nat.lt_of_lt_of_le HL6.out (Nat.le_trans HB7.out.size HB8.out.size))).trans HG63.out)
               have H9 := hid (H8.out.below hb9)
               have r0 : w9.cell? ⟨w.heap.size, 0, none⟩ = some (.int .u8 k.node) := (cell_of_row _ _ _ _ _ _ HG69.out).trans rfl
               have r1 : w9.cell? ⟨w.heap.size, 1, none⟩ = some (.int .u32 k.epoch) := (cell_of_row _ _ _ _ _ _ HG69.out).trans rfl
               have r2 : w9.cell? ⟨w.heap.size, 2, none⟩ = some (.int .u32 k.life) := (cell_of_row _ _ _ _ _ _ HG69.out).trans rfl
               have r3 : w9.cell? ⟨w.heap.size, 3, none⟩ = some (.int .u32 (k.seq : Int)) := (cell_of_row _ _ _ _ _ _ HG69.out).trans rfl
               have r4 : w9.cell? ⟨w.heap.size, 4, none⟩ = some (.int .u32 (k.ack : Int)) := (cell_of_row _ _ _ _ _ _ HG69.out).trans rfl
               have r5 : w9.cell? ⟨w.heap.size, 5, none⟩ = some (.bool k.plain) := (cell_of_row _ _ _ _ _ _ HG69.out).trans rfl
               have r6 : w9.cell? ⟨w.heap.size, 6, none⟩ = some (.slice va k.data.length vc) := (cell_of_row _ _ _ _ _ _ HG69.out).trans rfl
               clear q0 q1 q2 q3 q4 q5 q6 hb9)
            | (go_at_call 23; refine (open_any wb.heap.size b (tl 2 3 4 ts N 0) w9 H9.out).mono ?_; rintro e wz ⟨rfl, rfl⟩; rw [tl_l _ _ _ _ _ _ HNL.out])
            | (go_at_call 24; refine (heard_any wb.heap.size b (tl 2 3 4 ts N 0) w9 H9.out).mono ?_; rintro e wz ⟨rfl, rfl⟩; rw [tl_heard])
            | (go_at_call 19; refine (mine_any wb.heap.size b (tl 2 3 4 ts N 0) k va k.data.length vc w9 H9.out).mono ?_; rintro e w10 ⟨rfl, hb10⟩; rw [HM.out]; have HB10 := hid hb10; clear hb10)
            | fail)
          go_ret
          exact ⟨rfl, (((HBW.out.trans (HB7.out.mono HBW.out.size)).trans (HB8.out.mono (Nat.le_trans HBW.out.size HB7.out.size))).trans (HB9.out.mono (Nat.le_trans HBW.out.size (Nat.le_trans HB7.out.size HB8.out.size)))).trans (HB10.out.mono (Nat.le_trans HBW.out.size (Nat.le_trans HB7.out.size (Nat.le_trans HB8.out.size HB9.out.size))))⟩
      · have e0 : (k.node == 2) = false := by rw [beq_eq_false_iff_ne]; exact h0
        have HM := hid (show (tl 2 3 4 ts N 0).mine k = false by unfold Tk.mine; simp [tl, h0])
        clear h0
        go_wp2_with (first
          | (refine pk_ld rfl (.tmp 3) rfl w.heap.size rfl _ _ _ _ _ _ _ HG6.out ?_)
          | (go_at_call 21; refine (hear_not wb.heap.size b (tl 2 3 4 ts N 0) k va vc w6 H6.out HM.out).mono ?_; rintro e w7 ⟨rfl, hb7⟩; dsimp only
             have HB7 := hid hb7
             clear hb7)
          | (refine pk_fresh rfl (.tmp 11) (.tmp 71) rfl w7 (.int .u8 0) (.int .u32 0) (.int .u32 0) (.int .u32 0) (.int .u32 0) (.bool false) (.slice none 0 0) rfl rfl (by simp [Value.oneCell']) ?_; intro w8 hg8 hb8
             have HG8 := hid hg8
             have HB8 := hid hb8
             have HG63 := hid ((hb8.block w.heap.size (Nat.lt_of_lt_of_le HL6.out HB7.out.size)).trans ((HB7.out.block w.heap.size HL6.out).trans HG6.out))
             have H8 := hid ((H6.out.below HB7.out).below hb8)
             have q0 : w8.cell? ⟨w7.heap.size, 0, none⟩ = some (.int .u8 0) := (cell_of_row _ _ _ _ _ _ hg8).trans rfl
             have q1 : w8.cell? ⟨w7.heap.size, 1, none⟩ = some (.int .u32 0) := (cell_of_row _ _ _ _ _ _ hg8).trans rfl
             have q2 : w8.cell? ⟨w7.heap.size, 2, none⟩ = some (.int .u32 0) := (cell_of_row _ _ _ _ _ _ hg8).trans rfl
             have q3 : w8.cell? ⟨w7.heap.size, 3, none⟩ = some (.int .u32 0) := (cell_of_row _ _ _ _ _ _ hg8).trans rfl
             have q4 : w8.cell? ⟨w7.heap.size, 4, none⟩ = some (.int .u32 0) := (cell_of_row _ _ _ _ _ _ hg8).trans rfl
             have q5 : w8.cell? ⟨w7.heap.size, 5, none⟩ = some (.bool false) := (cell_of_row _ _ _ _ _ _ hg8).trans rfl
             have q6 : w8.cell? ⟨w7.heap.size, 6, none⟩ = some (.slice none 0 0) := (cell_of_row _ _ _ _ _ _ hg8).trans rfl
             clear hg8 hb8)
          | (go_at_call 14; refine (samepk_eq Pk.zero none none 0 0 w8 (Rd.nil _) (Rd.nil _)).mono ?_; rintro e w9 ⟨rfl, hb9⟩
             have HB9 := hid hb9
             have HG69 := hid ((hb9.block w.heap.size (Nat.lt_of_lt_of_le HL6.out (Nat.le_trans HB7.out.size HB8.out.size))).trans HG63.out)
             have H9 := hid (H8.out.below hb9)
             have r0 : w9.cell? ⟨w.heap.size, 0, none⟩ = some (.int .u8 k.node) := (cell_of_row _ _ _ _ _ _ HG69.out).trans rfl
             have r1 : w9.cell? ⟨w.heap.size, 1, none⟩ = some (.int .u32 k.epoch) := (cell_of_row _ _ _ _ _ _ HG69.out).trans rfl
             have r2 : w9.cell? ⟨w.heap.size, 2, none⟩ = some (.int .u32 k.life) := (cell_of_row _ _ _ _ _ _ HG69.out).trans rfl
             have r3 : w9.cell? ⟨w.heap.size, 3, none⟩ = some (.int .u32 (k.seq : Int)) := (cell_of_row _ _ _ _ _ _ HG69.out).trans rfl
             have r4 : w9.cell? ⟨w.heap.size, 4, none⟩ = some (.int .u32 (k.ack : Int)) := (cell_of_row _ _ _ _ _ _ HG69.out).trans rfl
             have r5 : w9.cell? ⟨w.heap.size, 5, none⟩ = some (.bool k.plain) := (cell_of_row _ _ _ _ _ _ HG69.out).trans rfl
             have r6 : w9.cell? ⟨w.heap.size, 6, none⟩ = some (.slice va k.data.length vc) := (cell_of_row _ _ _ _ _ _ HG69.out).trans rfl
             clear q0 q1 q2 q3 q4 q5 q6 hb9)
          | (go_at_call 23; refine (open_any wb.heap.size b (tl 2 3 4 ts N 0) w9 H9.out).mono ?_; rintro e wz ⟨rfl, rfl⟩; rw [tl_l _ _ _ _ _ _ HNL.out])
          | (go_at_call 24; refine (heard_any wb.heap.size b (tl 2 3 4 ts N 0) w9 H9.out).mono ?_; rintro e wz ⟨rfl, rfl⟩; rw [tl_heard])
          | (go_at_call 19; refine (mine_any wb.heap.size b (tl 2 3 4 ts N 0) k va k.data.length vc w9 H9.out).mono ?_; rintro e w10 ⟨rfl, hb10⟩; rw [HM.out]; have HB10 := hid hb10; clear hb10)
          | fail)
        go_ret
        exact ⟨rfl, (((HBW.out.trans (HB7.out.mono HBW.out.size)).trans (HB8.out.mono (Nat.le_trans HBW.out.size HB7.out.size))).trans (HB9.out.mono (Nat.le_trans HBW.out.size (Nat.le_trans HB7.out.size HB8.out.size)))).trans (HB10.out.mono (Nat.le_trans HBW.out.size (Nat.le_trans HB7.out.size (Nat.le_trans HB8.out.size HB9.out.size))))⟩

/-! ### THE ROW's STEP -/
set_option maxRecDepth 100000 in
theorem lifted (os : Os) (started : os.Started) (H : Type) (enc : TypeId × Value → H) :
    ReturnsInHanded {} Try.checked os 5 .any (Rows.talkOthersSpec.pre6 enc Try.prog Try.f5 Rows.talkOthersRow.domain false) (Rows.talkOthersSpec.post enc Try.prog Try.f5 false true false false) := by
  refine returnsInHanded_of_change (C := Try.checked) own started (by kernel_rfl) Try.func5
    (ChangeSpec.witness6 (enc := enc) (C := Try.checked) false ⟨#[], #[.slice none 0 0, .agg #[.int .u8 0, .int .u32 0, .int .u32 0, .int .u32 0, .int .u32 0, .bool false, .slice none 0 0]], []⟩ 8 (by kernel_rfl) (by kernel_rfl) (by kernel_rfl) (by kernel_rfl)) ?_
  intro W base args ds gs before hval0 hW hcnd _
  have hval : ∀ (j : Nat) t v, Try.f5.params[j]? = some t → args[j]? = some v → Value.okWide Try.prog W .any base t v := hval0
  have hW' := hW
  obtain ⟨p, q, hA0, hV, rfl, hfz, hnd⟩ := hW
  have hA : DataW.TrodAll enc Try.prog W 0 (fun _ => true) true Try.f5.params.toList args.toList ds p := hA0
  rw [Try.params5] at hA hval
  obtain ⟨v0, vs0, d0, ds0, p0, q0, hargs, rfl, rfl, h0, r0⟩ := trodAll_cons hA
  obtain ⟨v1, vs1, d1, ds1, p1, q1, rfl, rfl, rfl, h1, r1⟩ := trodAll_cons r0
  obtain ⟨rfl, rfl, rfl⟩ := trodAll_nil r1
  obtain rfl : args = #[v0, v1] := by cases args; simp_all
  obtain ⟨rfl, rfl⟩ := trodVars_none hV
  have k0 := h0
  have lt0 : ∀ x ∈ p0, x.block < W.heap.size := by obtain ⟨m, hm⟩ := k0; exact DataW.trod_lt m _ _ _ hm
  have k1 := h1
  have lt1 : ∀ x ∈ p1, x.block < W.heap.size := by obtain ⟨m, hm⟩ := k1; exact DataW.trod_lt m _ _ _ hm
  obtain ⟨a0, len0, cap0, rfl⟩ := okWide_slice Try.underlying50 (hval 0 50 v0 rfl rfl)
  have w0 : IsMat W a0 len0 cap0 := isMat_of h0
  have w1 : IsPk W v1 := isPk_of (hval 1 31 v1 rfl rfl) h1
  clear hA0 hval0
  refine (walk a0 len0 cap0 v1 W w0 w1).mono fun e W' ⟨he, bel⟩ => ?_
  subst he
  exact ⟨_, rfl, _, _, _, [], _, [], hW', trodAll_mk1 (shut_bool Try.underlying4 _), (trodAll_cons_mk (Below.trod laidOut (by kernel_rfl) (of_decide_eq_true (by kernel_rfl)) k0 bel lt0) (trodAll_cons_mk (Below.trod laidOut (by kernel_rfl) (of_decide_eq_true (by kernel_rfl)) k1 bel lt1) trodAll_mk0)), rfl, bel.frame _, fun h => by cases h⟩

theorem over : Rows.talkOthersRow.holds Try.pinned (OpenSpec.ofChange Rows.talkOthersSpec) :=
  OpenClaim.holds_of_wide 5 Try.f5 rfl rfl rfl rfl rfl rfl rfl ⟨rfl, rfl, rfl, rfl, rfl⟩ rfl rfl rfl rfl rfl (by kernel_rfl) Try.func5 (by kernel_rfl)
    (of_decide_eq_true (by kernel_rfl)) (by unfold Func.isWrapper; first | (rw [if_pos (by decide +kernel)]; kernel_rfl) | (rw [if_neg (by decide +kernel)]; exact ⟨rfl, rfl⟩))
    (fun os started H enc _ => lifted os started H enc)

/-- THE STATEMENT -/
theorem talkOthers_holds : Rows.TalkOthersSaid := over
#print axioms talkOthers_holds
end Go.Proofs.Ytjpojlkdogaalaa.talkOthers
