/-
  All bytes, asked in any order for anything, are told as they stand, to the first thing that doesn't stand there: quadrillelaw01.InkReads returns true for every input, without any condition.
  (The frame behind the walk is the guide's shell.)
-/
import Derived.Test.YtoglhleljknhcaaRows
import Derived.WalkKit
import Derived.Test.YtoglhleljknhcaaRefText
import Derived.ProofKit
import Derived.OpenShut
import Derived.ShutString
import Derived.ChangeOld
import Derived.Below
namespace Go.Proofs.Ytoglhleljknhcaa.inkReads
open Go.ChangeShapes Go.WideShapes Go.ChangeAt Go.RowKit
open Go.ChangeMaps (open_string shut_string)
set_option linter.unusedVariables false

theorem own : ownKnob Try.prog.godebug = none := by kernel_rfl
theorem laidOut : laidOutB Try.prog = true := by kernel_rfl

set_option maxRecDepth 100000 in
set_option maxHeartbeats 16000000 in
theorem walk (a0 : Option Addr) (len0 cap0 : Nat) (z0 : List Int) (a1 : Option Addr) (len1 cap1 : Nat) (z1 : List Int) (w : World) (w0 : IsRow .u8 w a0 len0 cap0 z0) (w1 : IsRow .u8 w a1 len1 cap1 z1) :
    Calls Try.prog 5 #[.slice a0 len0 cap0, .slice a1 len1 cap1] w fun e w' => e = .returned (.bool true) ∧ Below w.heap.size w w' := by
  obtain ⟨hb1, hb2, hb3⟩ := w0.bounds
  clear hb3
  obtain ⟨hb4, hb5, hb6⟩ := w1.bounds
  clear hb6
  obtain ⟨m, hm, hrm⟩ := w1.rd len1 (Nat.le_refl _)
  have HRM := hid hrm
  clear w1 hrm hm
  by_cases h6 : len0 ≤ 400
  · obtain ⟨t, ht, hrd⟩ := w0.rd (len0) (by omega)
    have HT := hid ht
    have HRD := hid hrd
    have hl400 : len0 ≤ 400 := by omega
    have hlow := hid (show t = [] ∨ ∀ k, (Value.slice a0 (len0) cap0).ownBlock = some k → k < w.heap.size from by
      rcases Nat.eq_zero_or_pos (len0) with h | h
      · left; exact List.eq_nil_of_length_eq_zero (by rw [HT.out]; exact h)
      · right
        obtain ⟨b', off', ea, hb', _⟩ := hrd.cellsAt h
        intro k hk
        rw [ea] at hk
        simp [Value.ownBlock] at hk
        omega)
    clear ht w0
    go_enter Try.func5, Try.ntmps5
    go_wp2_with fail
    refine (awake1_any w).mono ?_
    rintro e w2 ⟨rfl, hb2⟩
    have hrd2 := hrd.below hb2
    go_wp2_with (first
      | (at_builtin; refine appk rfl (.tmp 18) (.tmp 19) rfl w.heap.size (.slice (some ⟨w2.heap.size, 0, none⟩) 0 0) _ [] t t (len0) rfl rfl (Own.empty w2 _ hb2.size) (hrd2.alloc _) (by rw [List.length_nil, Nat.zero_add, HT.out]) rfl (by rw [List.length_nil, HT.out]; omega) (by have := hb2.size; simp; omega) ?_; intro ad3 cp3 w3 hown3 hgrow3; have hb3 : Below w.heap.size w w3 := (Own.empty w2 _ hb2.size).grown (hb2.alloc hb2.size _) hgrow3 (Nat.le_refl _) (by have := hb2.size; simp; omega))
      | (at_builtin; go_must (refine app1 rfl (.tmp 20) (.tmp 21) rfl w.heap.size (.slice ad3 (len0) cp3) _ t [165] (len0 + 1) rfl rfl (hown3.alloc _) (Rd.one _ 165 165 rfl) (by rw [HT.out] <;> rfl) (by decide) (by rw [HT.out]; simp <;> omega) (by have := hb3.size; simp; omega) ?_); intro g2 cp4 w4 hown4 hgrow4 hcp1 hcp2 hg2; have hb4 : Below w.heap.size w w4 := (hown3.alloc _).grown (hb3.alloc hb3.size _) hgrow4 (Nat.le_refl _) (by have := hb3.size; simp; omega)))
    have hfront : Rd w4 (.slice (some ⟨g2, 0, none⟩) (len0) cp4) t := by
      have := hown4.front
      rwa [HT.out] at this
    clear hown3 hgrow3 hb3 hgrow4 hb2 hrd2
    refine (read_any _ t w4 hfront (by rw [HT.out]; omega)).mono ?_
    rintro e w5 ⟨be, ve, rfl, he5, hb5⟩
    have hB5 := hb4.trans (hb5.mono hb4.size)
    have ho5 := hown4.below hb5
    have hg4 := (hown4.lt g2 rfl).2
    have hge := hid (show g2 ≠ be by have := he5.2.2.2; omega)
    have hgx := hid (show g2 ≠ w5.heap.size by have := hb5.size; omega)
    have hne := hid (show be ≠ w5.heap.size by have := he5.lt; omega)
    have he5' := he5.base (b0 := w.heap.size) hb4.size
    have HV0 : Hid (∀ k, ve.ownBlock = some k → k ≠ w5.heap.size) := fun k hk => by have := (he5.2.2.1 k hk).2.2; omega
    have HE0 : Hid (EyeSt (w5.alloc (.cells #[.slice a0 (len0) cap0, .bool false] 46)) w.heap.size be ve (some t)) := EyeAt.below he5' ((Below.refl _ _).alloc (Nat.le_refl _) _)
    have HX0 : Hid (RefAt (w5.alloc (.cells #[.slice a0 (len0) cap0, .bool false] 46)) w.heap.size w5.heap.size (.slice a0 (len0) cap0) (some t)) := ⟨heap_alloc_new w5 _, (hrd.below hB5).alloc _, hlow.out, hB5.size⟩
    have HO0 := hid (ho5.alloc (.cells #[.slice a0 (len0) cap0, .bool false] 46))
    have HB0 := hid (hB5.alloc hB5.size (.cells #[.slice a0 (len0) cap0, .bool false] 46))
    have HL0 : Hid (((some t).getD []).length ≤ 400) := by show t.length ≤ 400; rw [HT.out]; exact hl400
    clear hb5 hB5 ho5 hg4 he5 he5' hown4 hfront hb4 hrd hlow
    go_wp2_with fail
    go_loopw [33] (fun i wr => ∃ (k : Nat) (s : Option (List UInt8)) (ve vx : Value), k ≤ len1 ∧ k ≤ 60 ∧ i = .int .i64 k ∧ EyeSt wr w.heap.size be ve s ∧ RefAt wr w.heap.size w5.heap.size vx s ∧ Hid ((s.getD []).length ≤ 400) ∧ Hid (∀ k, ve.ownBlock = some k → k ≠ w5.heap.size) ∧ Own wr w.heap.size (.slice (some ⟨g2, 0, none⟩) (len0 + 1) cp4) (t ++ [165]) ∧ Below w.heap.size w wr) (fun i _ => len1 - (intOf i).toNat)
    case atStart => exact ⟨0, some t, ve, _, by omega, by omega, rfl, HE0.out, HX0.out, HL0, HV0, HO0.out, HB0.out⟩
    case round =>
      obtain ⟨k, s, ve, vx, hk1, hk2, rfl, he, hx, Hle0, HV, ho, hB⟩ := hrel
      by_cases hlt : k < len1
      · obtain ⟨b1, off1, rfl, hbw1, hcs⟩ := HRM.out.cellsAt (by omega)
        have hcell := (hB.cell (p := ⟨b1, off1 + k, none⟩) hbw1).trans (hcs k hlt)
        obtain ⟨y, hy⟩ : ∃ y, y = m.getD k 0 := ⟨_, rfl⟩
        rw [← hy, bv_eq] at hcell
        have hyb := y.toNat_lt
        clear hy hcs
        by_cases h60 : k < 60
        · have hq : y.toNat % 4 = 0 ∨ y.toNat % 4 = 1 ∨ y.toNat % 4 = 2 ∨ y.toNat % 4 = 3 := by omega
          rcases hq with hq | hq | hq | hq
          · have hqi : (y.toNat : Int) % 4 = 0 := by omega
            clear hq
            go_wp2_with fail
            refine (eyenum_st _ _ _ s wr he).mono ?_
            rintro e wa ⟨rfl, ve1, he1, hk1, hv1⟩
            have hx1 := hx.keeps hk1 hne.out.symm (fun k hk e => by have := he.2.2.2; omega)
            have ho1 := ho.keeps hk1 (fun k hk e => hge.out (by rw [← e]; simpa [Value.ownBlock] using hk))
            have hb1 : Below w.heap.size w wa := hB.trans (hk1.below hB.size (fun i hi => by subst hi; exact he.2.2.2))
            have HP := hid hx1
            go_wp2_with fail
            refine (refeyenum_st _ _ _ s wa hx1).mono ?_
            rintro e wb ⟨rfl, vx1, hx2, hk2⟩
            have he2 := EyeAt.keeps he1 hk2 (fun k hk e => by
              rcases hk with h | h
              · exact hne.out (h.symm.trans e)
              · exact HV.out k (hv1 k h) e)
            have ho2 := ho1.keeps hk2 (fun k hk e => hgx.out (by rw [← e]; simpa [Value.ownBlock] using hk))
            have hB2 : Below w.heap.size w wb := hb1.trans (hk2.below hb1.size (fun i hi => by subst hi; exact hx1.2.2.2))
            have hv2 : ∀ k, ve1.ownBlock = some k → k ≠ w5.heap.size := fun k hk => HV.out k (hv1 k hk)
            have hle2 : ((Ink.stNum s).2.getD []).length ≤ 400 := Nat.le_trans (Ink.stNum_le s) Hle0.out
            clear HV Hle0 he hx ho hB he1 hx1 ho1 hb1 hk1 hk2 hv1 HP
            obtain ⟨s2, hs2⟩ : ∃ s2, s2 = (Ink.stNum s).2 := ⟨_, rfl⟩
            rw [← hs2] at he2 hx2 hle2
            have HE := hid he2
            have HX := hid hx2
            have HO := hid ho2
            have HB := hid hB2
            have Hle := hid hle2
            have HV := hid hv2
            obtain ⟨N, hN⟩ : ∃ N, N = (s2.getD []).length := ⟨_, rfl⟩
            have HNN := hid hN
            have hxc := hx2.cell0
            obtain ⟨xa, xc, exs, _⟩ := hx2.2.1
            rw [← hN] at exs
            subst exs
            clear he2 hx2 ho2 hB2 hle2 hv2 hN
            by_cases hs : s2 = some []
            · clear hs2
              subst hs
              go_wp2_with fail
              go_quiet ((first
                | (go_at_call 23; exact quiet_first (eyeleft_st _ _ _ _ _ (EyeSt.drewN HE.out _) N HNN.out))
                | (go_at_call 35; exact quiet_first (eyeend_good _ _ _ _ (EyeSt.drewN HE.out _)))
                | (go_at_call 36; exact quiet_first (refend_good _ _ _ _ (RefAt.drewN HX.out _)))))
              go_wp2_with fail
              go_roundw
              case rel => exact ⟨k + 1, _, _, _, by omega, by omega, by go_num, EyeSt.drewN HE.out _, RefAt.drewN HX.out _, Hle, HV, HO.out, below_behind HB.out _⟩
              case measure => simp [intOf]; omega
            · go_wp2_with fail
              go_quiet ((first
                | (go_at_call 23; exact quiet_first (eyeleft_st _ _ _ _ _ (EyeSt.drewN HE.out _) N HNN.out))
                | (go_at_call 35; exact quiet_first (eyeend_bad _ _ _ _ _ (EyeSt.drewN HE.out _) hs))
                | (go_at_call 36; exact quiet_first (refend_bad _ _ _ _ _ (RefAt.drewN HX.out _) hs))))
              go_wp2_with fail
              go_roundw
              case rel => exact ⟨k + 1, _, _, _, by omega, by omega, by go_num, EyeSt.drewN HE.out _, RefAt.drewN HX.out _, Hle, HV, HO.out, below_behind HB.out _⟩
              case measure => simp [intOf]; omega
          · have hqi : (y.toNat : Int) % 4 = 1 := by omega
            clear hq
            go_wp2_with fail
            refine (eyeint_st _ _ _ s wr he).mono ?_
            rintro e wa ⟨rfl, ve1, he1, hk1, hv1⟩
            have hx1 := hx.keeps hk1 hne.out.symm (fun k hk e => by have := he.2.2.2; omega)
            have ho1 := ho.keeps hk1 (fun k hk e => hge.out (by rw [← e]; simpa [Value.ownBlock] using hk))
            have hb1 : Below w.heap.size w wa := hB.trans (hk1.below hB.size (fun i hi => by subst hi; exact he.2.2.2))
            have HP := hid hx1
            go_wp2_with fail
            refine (refeyeint_st _ _ _ s wa hx1).mono ?_
            rintro e wb ⟨rfl, vx1, hx2, hk2⟩
            have he2 := EyeAt.keeps he1 hk2 (fun k hk e => by
              rcases hk with h | h
              · exact hne.out (h.symm.trans e)
              · exact HV.out k (hv1 k h) e)
            have ho2 := ho1.keeps hk2 (fun k hk e => hgx.out (by rw [← e]; simpa [Value.ownBlock] using hk))
            have hB2 : Below w.heap.size w wb := hb1.trans (hk2.below hb1.size (fun i hi => by subst hi; exact hx1.2.2.2))
            have hv2 : ∀ k, ve1.ownBlock = some k → k ≠ w5.heap.size := fun k hk => HV.out k (hv1 k hk)
            have hle2 : ((Ink.stBelow 2147483648 s).2.getD []).length ≤ 400 := Nat.le_trans (stBelow_le 2147483648 s) Hle0.out
            clear HV Hle0 he hx ho hB he1 hx1 ho1 hb1 hk1 hk2 hv1 HP
            obtain ⟨s2, hs2⟩ : ∃ s2, s2 = (Ink.stBelow 2147483648 s).2 := ⟨_, rfl⟩
            rw [← hs2] at he2 hx2 hle2
            have HE := hid he2
            have HX := hid hx2
            have HO := hid ho2
            have HB := hid hB2
            have Hle := hid hle2
            have HV := hid hv2
            obtain ⟨N, hN⟩ : ∃ N, N = (s2.getD []).length := ⟨_, rfl⟩
            have HNN := hid hN
            have hxc := hx2.cell0
            obtain ⟨xa, xc, exs, _⟩ := hx2.2.1
            rw [← hN] at exs
            subst exs
            clear he2 hx2 ho2 hB2 hle2 hv2 hN
            by_cases hs : s2 = some []
            · clear hs2
              subst hs
              go_wp2_with fail
              go_quiet ((first
                | (go_at_call 23; exact quiet_first (eyeleft_st _ _ _ _ _ (EyeSt.drewN HE.out _) N HNN.out))
                | (go_at_call 35; exact quiet_first (eyeend_good _ _ _ _ (EyeSt.drewN HE.out _)))
                | (go_at_call 36; exact quiet_first (refend_good _ _ _ _ (RefAt.drewN HX.out _)))))
              go_wp2_with fail
              go_roundw
              case rel => exact ⟨k + 1, _, _, _, by omega, by omega, by go_num, EyeSt.drewN HE.out _, RefAt.drewN HX.out _, Hle, HV, HO.out, below_behind HB.out _⟩
              case measure => simp [intOf]; omega
            · go_wp2_with fail
              go_quiet ((first
                | (go_at_call 23; exact quiet_first (eyeleft_st _ _ _ _ _ (EyeSt.drewN HE.out _) N HNN.out))
                | (go_at_call 35; exact quiet_first (eyeend_bad _ _ _ _ _ (EyeSt.drewN HE.out _) hs))
                | (go_at_call 36; exact quiet_first (refend_bad _ _ _ _ _ (RefAt.drewN HX.out _) hs))))
              go_wp2_with fail
              go_roundw
              case rel => exact ⟨k + 1, _, _, _, by omega, by omega, by go_num, EyeSt.drewN HE.out _, RefAt.drewN HX.out _, Hle, HV, HO.out, below_behind HB.out _⟩
              case measure => simp [intOf]; omega
          · have hqi : (y.toNat : Int) % 4 = 2 := by omega
            clear hq
            go_wp2_with fail
            refine (eyebool_st _ _ _ s wr he).mono ?_
            rintro e wa ⟨rfl, ve1, he1, hk1, hv1⟩
            have hx1 := hx.keeps hk1 hne.out.symm (fun k hk e => by have := he.2.2.2; omega)
            have ho1 := ho.keeps hk1 (fun k hk e => hge.out (by rw [← e]; simpa [Value.ownBlock] using hk))
            have hb1 : Below w.heap.size w wa := hB.trans (hk1.below hB.size (fun i hi => by subst hi; exact he.2.2.2))
            have HP := hid hx1
            go_wp2_with fail
            refine (refeyebool_st _ _ _ s wa hx1).mono ?_
            rintro e wb ⟨rfl, vx1, hx2, hk2⟩
            have he2 := EyeAt.keeps he1 hk2 (fun k hk e => by
              rcases hk with h | h
              · exact hne.out (h.symm.trans e)
              · exact HV.out k (hv1 k h) e)
            have ho2 := ho1.keeps hk2 (fun k hk e => hgx.out (by rw [← e]; simpa [Value.ownBlock] using hk))
            have hB2 : Below w.heap.size w wb := hb1.trans (hk2.below hb1.size (fun i hi => by subst hi; exact hx1.2.2.2))
            have hv2 : ∀ k, ve1.ownBlock = some k → k ≠ w5.heap.size := fun k hk => HV.out k (hv1 k hk)
            have hle2 : ((Ink.stBelow 2 s).2.getD []).length ≤ 400 := Nat.le_trans (stBelow_le 2 s) Hle0.out
            clear HV Hle0 he hx ho hB he1 hx1 ho1 hb1 hk1 hk2 hv1 HP
            obtain ⟨s2, hs2⟩ : ∃ s2, s2 = (Ink.stBelow 2 s).2 := ⟨_, rfl⟩
            rw [← hs2] at he2 hx2 hle2
            have HE := hid he2
            have HX := hid hx2
            have HO := hid ho2
            have HB := hid hB2
            have Hle := hid hle2
            have HV := hid hv2
            obtain ⟨N, hN⟩ : ∃ N, N = (s2.getD []).length := ⟨_, rfl⟩
            have HNN := hid hN
            have hxc := hx2.cell0
            obtain ⟨xa, xc, exs, _⟩ := hx2.2.1
            rw [← hN] at exs
            subst exs
            clear he2 hx2 ho2 hB2 hle2 hv2 hN
            by_cases hs : s2 = some []
            · clear hs2
              subst hs
              go_wp2_with fail
              go_quiet ((first
                | (go_at_call 23; exact quiet_first (eyeleft_st _ _ _ _ _ (EyeSt.drewN HE.out _) N HNN.out))
                | (go_at_call 35; exact quiet_first (eyeend_good _ _ _ _ (EyeSt.drewN HE.out _)))
                | (go_at_call 36; exact quiet_first (refend_good _ _ _ _ (RefAt.drewN HX.out _)))))
              go_wp2_with fail
              go_roundw
              case rel => exact ⟨k + 1, _, _, _, by omega, by omega, by go_num, EyeSt.drewN HE.out _, RefAt.drewN HX.out _, Hle, HV, HO.out, below_behind HB.out _⟩
              case measure => simp [intOf]; omega
            · go_wp2_with fail
              go_quiet ((first
                | (go_at_call 23; exact quiet_first (eyeleft_st _ _ _ _ _ (EyeSt.drewN HE.out _) N HNN.out))
                | (go_at_call 35; exact quiet_first (eyeend_bad _ _ _ _ _ (EyeSt.drewN HE.out _) hs))
                | (go_at_call 36; exact quiet_first (refend_bad _ _ _ _ _ (RefAt.drewN HX.out _) hs))))
              go_wp2_with fail
              go_roundw
              case rel => exact ⟨k + 1, _, _, _, by omega, by omega, by go_num, EyeSt.drewN HE.out _, RefAt.drewN HX.out _, Hle, HV, HO.out, below_behind HB.out _⟩
              case measure => simp [intOf]; omega
          · have hqi : (y.toNat : Int) % 4 = 3 := by omega
            clear hq
            go_wp2_with fail
            refine (eyetext_st _ _ _ s wr he (by have := Hle0.out; omega)).mono ?_
            rintro e wa ⟨u1, rfl, hu1, ve1, he1, hk1, hv1⟩
            have hx1 := hx.keeps hk1 hne.out.symm (fun k hk e => by have := he.2.2.2; omega)
            have ho1 := ho.keeps hk1 (fun k hk e => hge.out (by rw [← e]; simpa [Value.ownBlock] using hk))
            have hb1 : Below w.heap.size w wa := hB.trans (hk1.below hB.size (fun i hi => by subst hi; exact he.2.2.2))
            have HP := hid hx1
            go_wp2_with fail
            refine (reftext_st _ _ _ s wa hx1 (by have := Hle0.out; omega)).mono ?_
            rintro e wb ⟨u2, rfl, hu2, vx1, hx2, hk2⟩
            have hu1b := hu1.keeps hk2 (fun k hk e => by have := (hu1.lt k hk).1; have := hx.lt; omega)
            have he2 := EyeAt.keeps he1 hk2 (fun k hk e => by
              rcases hk with h | h
              · exact hne.out (h.symm.trans e)
              · exact HV.out k (hv1 k h) e)
            have ho2 := ho1.keeps hk2 (fun k hk e => hgx.out (by rw [← e]; simpa [Value.ownBlock] using hk))
            have hB2 : Below w.heap.size w wb := hb1.trans (hk2.below hb1.size (fun i hi => by subst hi; exact hx1.2.2.2))
            have hv2 : ∀ k, ve1.ownBlock = some k → k ≠ w5.heap.size := fun k hk => HV.out k (hv1 k hk)
            have hle2 : ((Ink.stText s).2.getD []).length ≤ 400 := Nat.le_trans (stText_le s) Hle0.out
            clear HV Hle0 he hx ho hB he1 hx1 ho1 hb1 hk1 hk2 hv1 HP hu1
            go_wp2_with fail
            refine (same_eq _ _ _ _ hu1b.rd hu2.rd).mono ?_
            rintro e wc ⟨rfl, rfl⟩
            clear hu1b hu2
            obtain ⟨s2, hs2⟩ : ∃ s2, s2 = (Ink.stText s).2 := ⟨_, rfl⟩
            rw [← hs2] at he2 hx2 hle2
            have HE := hid he2
            have HX := hid hx2
            have HO := hid ho2
            have HB := hid hB2
            have Hle := hid hle2
            have HV := hid hv2
            obtain ⟨N, hN⟩ : ∃ N, N = (s2.getD []).length := ⟨_, rfl⟩
            have HNN := hid hN
            have hxc := hx2.cell0
            obtain ⟨xa, xc, exs, _⟩ := hx2.2.1
            rw [← hN] at exs
            subst exs
            clear he2 hx2 ho2 hB2 hle2 hv2 hN
            by_cases hs : s2 = some []
            · clear hs2
              subst hs
              go_wp2_with fail
              go_quiet ((first
                | (go_at_call 23; exact quiet_first (eyeleft_st _ _ _ _ _ (EyeSt.drewN HE.out _) N HNN.out))
                | (go_at_call 35; exact quiet_first (eyeend_good _ _ _ _ (EyeSt.drewN HE.out _)))
                | (go_at_call 36; exact quiet_first (refend_good _ _ _ _ (RefAt.drewN HX.out _)))))
              go_wp2_with fail
              go_roundw
              case rel => exact ⟨k + 1, _, _, _, by omega, by omega, by go_num, EyeSt.drewN HE.out _, RefAt.drewN HX.out _, Hle, HV, HO.out, below_behind HB.out _⟩
              case measure => simp [intOf]; omega
            · go_wp2_with fail
              go_quiet ((first
                | (go_at_call 23; exact quiet_first (eyeleft_st _ _ _ _ _ (EyeSt.drewN HE.out _) N HNN.out))
                | (go_at_call 35; exact quiet_first (eyeend_bad _ _ _ _ _ (EyeSt.drewN HE.out _) hs))
                | (go_at_call 36; exact quiet_first (refend_bad _ _ _ _ _ (RefAt.drewN HX.out _) hs))))
              go_wp2_with fail
              go_roundw
              case rel => exact ⟨k + 1, _, _, _, by omega, by omega, by go_num, EyeSt.drewN HE.out _, RefAt.drewN HX.out _, Hle, HV, HO.out, below_behind HB.out _⟩
              case measure => simp [intOf]; omega
        · obtain rfl : k = 60 := by omega
          rw [show ((60 : Nat) : Int) = 60 from rfl]
          have hf : Rd wr (.slice (some ⟨g2, 0, none⟩) (len0) cp4) t := by
            have := ho.front
            rwa [HT.out] at this
          go_wp2_with fail
          refine (same_eq _ _ t wr hf (HRD.out.below hB)).mono ?_
          rintro e wz ⟨rfl, rfl⟩
          have hlast : wr.cell? ⟨g2, len0, none⟩ = some (.int .u8 165) := by
            have := ho.cell (len0) (by rw [List.length_append, HT.out]; simp)
            rw [this]
            simp [bv, ← HT.out]
          go_wp2
          go_ret
          exact ⟨rfl, hB⟩
      · obtain rfl : len1 = k := by omega
        have hf : Rd wr (.slice (some ⟨g2, 0, none⟩) (len0) cp4) t := by
          have := ho.front
          rwa [HT.out] at this
        go_wp2_with fail
        refine (same_eq _ _ t wr hf (HRD.out.below hB)).mono ?_
        rintro e wz ⟨rfl, rfl⟩
        have hlast : wr.cell? ⟨g2, len0, none⟩ = some (.int .u8 165) := by
          have := ho.cell (len0) (by rw [List.length_append, HT.out]; simp)
          rw [this]
          simp [bv, ← HT.out]
        go_wp2
        go_ret
        exact ⟨rfl, hB⟩
  · obtain ⟨t, ht, hrd⟩ := w0.rd (400) (by omega)
    have HT := hid ht
    have HRD := hid hrd
    have hl400 : 400 ≤ 400 := by omega
    have hlow := hid (show t = [] ∨ ∀ k, (Value.slice a0 (400) cap0).ownBlock = some k → k < w.heap.size from by
      rcases Nat.eq_zero_or_pos (400) with h | h
      · left; exact List.eq_nil_of_length_eq_zero (by rw [HT.out]; exact h)
      · right
        obtain ⟨b', off', ea, hb', _⟩ := hrd.cellsAt h
        intro k hk
        rw [ea] at hk
        simp [Value.ownBlock] at hk
        omega)
    clear ht w0
    go_enter Try.func5, Try.ntmps5
    go_wp2_with fail
    refine (awake1_any w).mono ?_
    rintro e w2 ⟨rfl, hb2⟩
    have hrd2 := hrd.below hb2
    go_wp2_with (first
      | (at_builtin; refine appk rfl (.tmp 18) (.tmp 19) rfl w.heap.size (.slice (some ⟨w2.heap.size, 0, none⟩) 0 0) _ [] t t (400) rfl rfl (Own.empty w2 _ hb2.size) (hrd2.alloc _) (by rw [List.length_nil, Nat.zero_add, HT.out]) rfl (by rw [List.length_nil, HT.out]; omega) (by have := hb2.size; simp; omega) ?_; intro ad3 cp3 w3 hown3 hgrow3; have hb3 : Below w.heap.size w w3 := (Own.empty w2 _ hb2.size).grown (hb2.alloc hb2.size _) hgrow3 (Nat.le_refl _) (by have := hb2.size; simp; omega))
      | (at_builtin; go_must (refine app1 rfl (.tmp 20) (.tmp 21) rfl w.heap.size (.slice ad3 (400) cp3) _ t [165] (400 + 1) rfl rfl (hown3.alloc _) (Rd.one _ 165 165 rfl) (by rw [HT.out] <;> rfl) (by decide) (by rw [HT.out]; simp <;> omega) (by have := hb3.size; simp; omega) ?_); intro g2 cp4 w4 hown4 hgrow4 hcp1 hcp2 hg2; have hb4 : Below w.heap.size w w4 := (hown3.alloc _).grown (hb3.alloc hb3.size _) hgrow4 (Nat.le_refl _) (by have := hb3.size; simp; omega)))
    have hfront : Rd w4 (.slice (some ⟨g2, 0, none⟩) (400) cp4) t := by
      have := hown4.front
      rwa [HT.out] at this
    clear hown3 hgrow3 hb3 hgrow4 hb2 hrd2
    refine (read_any _ t w4 hfront (by rw [HT.out]; omega)).mono ?_
    rintro e w5 ⟨be, ve, rfl, he5, hb5⟩
    have hB5 := hb4.trans (hb5.mono hb4.size)
    have ho5 := hown4.below hb5
    have hg4 := (hown4.lt g2 rfl).2
    have hge := hid (show g2 ≠ be by have := he5.2.2.2; omega)
    have hgx := hid (show g2 ≠ w5.heap.size by have := hb5.size; omega)
    have hne := hid (show be ≠ w5.heap.size by have := he5.lt; omega)
    have he5' := he5.base (b0 := w.heap.size) hb4.size
    have HV0 : Hid (∀ k, ve.ownBlock = some k → k ≠ w5.heap.size) := fun k hk => by have := (he5.2.2.1 k hk).2.2; omega
    have HE0 : Hid (EyeSt (w5.alloc (.cells #[.slice a0 (400) cap0, .bool false] 46)) w.heap.size be ve (some t)) := EyeAt.below he5' ((Below.refl _ _).alloc (Nat.le_refl _) _)
    have HX0 : Hid (RefAt (w5.alloc (.cells #[.slice a0 (400) cap0, .bool false] 46)) w.heap.size w5.heap.size (.slice a0 (400) cap0) (some t)) := ⟨heap_alloc_new w5 _, (hrd.below hB5).alloc _, hlow.out, hB5.size⟩
    have HO0 := hid (ho5.alloc (.cells #[.slice a0 (400) cap0, .bool false] 46))
    have HB0 := hid (hB5.alloc hB5.size (.cells #[.slice a0 (400) cap0, .bool false] 46))
    have HL0 : Hid (((some t).getD []).length ≤ 400) := by show t.length ≤ 400; rw [HT.out]; exact hl400
    clear hb5 hB5 ho5 hg4 he5 he5' hown4 hfront hb4 hrd hlow
    go_wp2_with fail
    go_loopw [33] (fun i wr => ∃ (k : Nat) (s : Option (List UInt8)) (ve vx : Value), k ≤ len1 ∧ k ≤ 60 ∧ i = .int .i64 k ∧ EyeSt wr w.heap.size be ve s ∧ RefAt wr w.heap.size w5.heap.size vx s ∧ Hid ((s.getD []).length ≤ 400) ∧ Hid (∀ k, ve.ownBlock = some k → k ≠ w5.heap.size) ∧ Own wr w.heap.size (.slice (some ⟨g2, 0, none⟩) (400 + 1) cp4) (t ++ [165]) ∧ Below w.heap.size w wr) (fun i _ => len1 - (intOf i).toNat)
    case atStart => exact ⟨0, some t, ve, _, by omega, by omega, rfl, HE0.out, HX0.out, HL0, HV0, HO0.out, HB0.out⟩
    case round =>
      obtain ⟨k, s, ve, vx, hk1, hk2, rfl, he, hx, Hle0, HV, ho, hB⟩ := hrel
      by_cases hlt : k < len1
      · obtain ⟨b1, off1, rfl, hbw1, hcs⟩ := HRM.out.cellsAt (by omega)
        have hcell := (hB.cell (p := ⟨b1, off1 + k, none⟩) hbw1).trans (hcs k hlt)
        obtain ⟨y, hy⟩ : ∃ y, y = m.getD k 0 := ⟨_, rfl⟩
        rw [← hy, bv_eq] at hcell
        have hyb := y.toNat_lt
        clear hy hcs
        by_cases h60 : k < 60
        · have hq : y.toNat % 4 = 0 ∨ y.toNat % 4 = 1 ∨ y.toNat % 4 = 2 ∨ y.toNat % 4 = 3 := by omega
          rcases hq with hq | hq | hq | hq
          · have hqi : (y.toNat : Int) % 4 = 0 := by omega
            clear hq
            go_wp2_with fail
            refine (eyenum_st _ _ _ s wr he).mono ?_
            rintro e wa ⟨rfl, ve1, he1, hk1, hv1⟩
            have hx1 := hx.keeps hk1 hne.out.symm (fun k hk e => by have := he.2.2.2; omega)
            have ho1 := ho.keeps hk1 (fun k hk e => hge.out (by rw [← e]; simpa [Value.ownBlock] using hk))
            have hb1 : Below w.heap.size w wa := hB.trans (hk1.below hB.size (fun i hi => by subst hi; exact he.2.2.2))
            have HP := hid hx1
            go_wp2_with fail
            refine (refeyenum_st _ _ _ s wa hx1).mono ?_
            rintro e wb ⟨rfl, vx1, hx2, hk2⟩
            have he2 := EyeAt.keeps he1 hk2 (fun k hk e => by
              rcases hk with h | h
              · exact hne.out (h.symm.trans e)
              · exact HV.out k (hv1 k h) e)
            have ho2 := ho1.keeps hk2 (fun k hk e => hgx.out (by rw [← e]; simpa [Value.ownBlock] using hk))
            have hB2 : Below w.heap.size w wb := hb1.trans (hk2.below hb1.size (fun i hi => by subst hi; exact hx1.2.2.2))
            have hv2 : ∀ k, ve1.ownBlock = some k → k ≠ w5.heap.size := fun k hk => HV.out k (hv1 k hk)
            have hle2 : ((Ink.stNum s).2.getD []).length ≤ 400 := Nat.le_trans (Ink.stNum_le s) Hle0.out
            clear HV Hle0 he hx ho hB he1 hx1 ho1 hb1 hk1 hk2 hv1 HP
            obtain ⟨s2, hs2⟩ : ∃ s2, s2 = (Ink.stNum s).2 := ⟨_, rfl⟩
            rw [← hs2] at he2 hx2 hle2
            have HE := hid he2
            have HX := hid hx2
            have HO := hid ho2
            have HB := hid hB2
            have Hle := hid hle2
            have HV := hid hv2
            obtain ⟨N, hN⟩ : ∃ N, N = (s2.getD []).length := ⟨_, rfl⟩
            have HNN := hid hN
            have hxc := hx2.cell0
            obtain ⟨xa, xc, exs, _⟩ := hx2.2.1
            rw [← hN] at exs
            subst exs
            clear he2 hx2 ho2 hB2 hle2 hv2 hN
            by_cases hs : s2 = some []
            · clear hs2
              subst hs
              go_wp2_with fail
              go_quiet ((first
                | (go_at_call 23; exact quiet_first (eyeleft_st _ _ _ _ _ (EyeSt.drewN HE.out _) N HNN.out))
                | (go_at_call 35; exact quiet_first (eyeend_good _ _ _ _ (EyeSt.drewN HE.out _)))
                | (go_at_call 36; exact quiet_first (refend_good _ _ _ _ (RefAt.drewN HX.out _)))))
              go_wp2_with fail
              go_roundw
              case rel => exact ⟨k + 1, _, _, _, by omega, by omega, by go_num, EyeSt.drewN HE.out _, RefAt.drewN HX.out _, Hle, HV, HO.out, below_behind HB.out _⟩
              case measure => simp [intOf]; omega
            · go_wp2_with fail
              go_quiet ((first
                | (go_at_call 23; exact quiet_first (eyeleft_st _ _ _ _ _ (EyeSt.drewN HE.out _) N HNN.out))
                | (go_at_call 35; exact quiet_first (eyeend_bad _ _ _ _ _ (EyeSt.drewN HE.out _) hs))
                | (go_at_call 36; exact quiet_first (refend_bad _ _ _ _ _ (RefAt.drewN HX.out _) hs))))
              go_wp2_with fail
              go_roundw
              case rel => exact ⟨k + 1, _, _, _, by omega, by omega, by go_num, EyeSt.drewN HE.out _, RefAt.drewN HX.out _, Hle, HV, HO.out, below_behind HB.out _⟩
              case measure => simp [intOf]; omega
          · have hqi : (y.toNat : Int) % 4 = 1 := by omega
            clear hq
            go_wp2_with fail
            refine (eyeint_st _ _ _ s wr he).mono ?_
            rintro e wa ⟨rfl, ve1, he1, hk1, hv1⟩
            have hx1 := hx.keeps hk1 hne.out.symm (fun k hk e => by have := he.2.2.2; omega)
            have ho1 := ho.keeps hk1 (fun k hk e => hge.out (by rw [← e]; simpa [Value.ownBlock] using hk))
            have hb1 : Below w.heap.size w wa := hB.trans (hk1.below hB.size (fun i hi => by subst hi; exact he.2.2.2))
            have HP := hid hx1
            go_wp2_with fail
            refine (refeyeint_st _ _ _ s wa hx1).mono ?_
            rintro e wb ⟨rfl, vx1, hx2, hk2⟩
            have he2 := EyeAt.keeps he1 hk2 (fun k hk e => by
              rcases hk with h | h
              · exact hne.out (h.symm.trans e)
              · exact HV.out k (hv1 k h) e)
            have ho2 := ho1.keeps hk2 (fun k hk e => hgx.out (by rw [← e]; simpa [Value.ownBlock] using hk))
            have hB2 : Below w.heap.size w wb := hb1.trans (hk2.below hb1.size (fun i hi => by subst hi; exact hx1.2.2.2))
            have hv2 : ∀ k, ve1.ownBlock = some k → k ≠ w5.heap.size := fun k hk => HV.out k (hv1 k hk)
            have hle2 : ((Ink.stBelow 2147483648 s).2.getD []).length ≤ 400 := Nat.le_trans (stBelow_le 2147483648 s) Hle0.out
            clear HV Hle0 he hx ho hB he1 hx1 ho1 hb1 hk1 hk2 hv1 HP
            obtain ⟨s2, hs2⟩ : ∃ s2, s2 = (Ink.stBelow 2147483648 s).2 := ⟨_, rfl⟩
            rw [← hs2] at he2 hx2 hle2
            have HE := hid he2
            have HX := hid hx2
            have HO := hid ho2
            have HB := hid hB2
            have Hle := hid hle2
            have HV := hid hv2
            obtain ⟨N, hN⟩ : ∃ N, N = (s2.getD []).length := ⟨_, rfl⟩
            have HNN := hid hN
            have hxc := hx2.cell0
            obtain ⟨xa, xc, exs, _⟩ := hx2.2.1
            rw [← hN] at exs
            subst exs
            clear he2 hx2 ho2 hB2 hle2 hv2 hN
            by_cases hs : s2 = some []
            · clear hs2
              subst hs
              go_wp2_with fail
              go_quiet ((first
                | (go_at_call 23; exact quiet_first (eyeleft_st _ _ _ _ _ (EyeSt.drewN HE.out _) N HNN.out))
                | (go_at_call 35; exact quiet_first (eyeend_good _ _ _ _ (EyeSt.drewN HE.out _)))
                | (go_at_call 36; exact quiet_first (refend_good _ _ _ _ (RefAt.drewN HX.out _)))))
              go_wp2_with fail
              go_roundw
              case rel => exact ⟨k + 1, _, _, _, by omega, by omega, by go_num, EyeSt.drewN HE.out _, RefAt.drewN HX.out _, Hle, HV, HO.out, below_behind HB.out _⟩
              case measure => simp [intOf]; omega
            · go_wp2_with fail
              go_quiet ((first
                | (go_at_call 23; exact quiet_first (eyeleft_st _ _ _ _ _ (EyeSt.drewN HE.out _) N HNN.out))
                | (go_at_call 35; exact quiet_first (eyeend_bad _ _ _ _ _ (EyeSt.drewN HE.out _) hs))
                | (go_at_call 36; exact quiet_first (refend_bad _ _ _ _ _ (RefAt.drewN HX.out _) hs))))
              go_wp2_with fail
              go_roundw
              case rel => exact ⟨k + 1, _, _, _, by omega, by omega, by go_num, EyeSt.drewN HE.out _, RefAt.drewN HX.out _, Hle, HV, HO.out, below_behind HB.out _⟩
              case measure => simp [intOf]; omega
          · have hqi : (y.toNat : Int) % 4 = 2 := by omega
            clear hq
            go_wp2_with fail
            refine (eyebool_st _ _ _ s wr he).mono ?_
            rintro e wa ⟨rfl, ve1, he1, hk1, hv1⟩
            have hx1 := hx.keeps hk1 hne.out.symm (fun k hk e => by have := he.2.2.2; omega)
            have ho1 := ho.keeps hk1 (fun k hk e => hge.out (by rw [← e]; simpa [Value.ownBlock] using hk))
            have hb1 : Below w.heap.size w wa := hB.trans (hk1.below hB.size (fun i hi => by subst hi; exact he.2.2.2))
            have HP := hid hx1
            go_wp2_with fail
            refine (refeyebool_st _ _ _ s wa hx1).mono ?_
            rintro e wb ⟨rfl, vx1, hx2, hk2⟩
            have he2 := EyeAt.keeps he1 hk2 (fun k hk e => by
              rcases hk with h | h
              · exact hne.out (h.symm.trans e)
              · exact HV.out k (hv1 k h) e)
            have ho2 := ho1.keeps hk2 (fun k hk e => hgx.out (by rw [← e]; simpa [Value.ownBlock] using hk))
            have hB2 : Below w.heap.size w wb := hb1.trans (hk2.below hb1.size (fun i hi => by subst hi; exact hx1.2.2.2))
            have hv2 : ∀ k, ve1.ownBlock = some k → k ≠ w5.heap.size := fun k hk => HV.out k (hv1 k hk)
            have hle2 : ((Ink.stBelow 2 s).2.getD []).length ≤ 400 := Nat.le_trans (stBelow_le 2 s) Hle0.out
            clear HV Hle0 he hx ho hB he1 hx1 ho1 hb1 hk1 hk2 hv1 HP
            obtain ⟨s2, hs2⟩ : ∃ s2, s2 = (Ink.stBelow 2 s).2 := ⟨_, rfl⟩
            rw [← hs2] at he2 hx2 hle2
            have HE := hid he2
            have HX := hid hx2
            have HO := hid ho2
            have HB := hid hB2
            have Hle := hid hle2
            have HV := hid hv2
            obtain ⟨N, hN⟩ : ∃ N, N = (s2.getD []).length := ⟨_, rfl⟩
            have HNN := hid hN
            have hxc := hx2.cell0
            obtain ⟨xa, xc, exs, _⟩ := hx2.2.1
            rw [← hN] at exs
            subst exs
            clear he2 hx2 ho2 hB2 hle2 hv2 hN
            by_cases hs : s2 = some []
            · clear hs2
              subst hs
              go_wp2_with fail
              go_quiet ((first
                | (go_at_call 23; exact quiet_first (eyeleft_st _ _ _ _ _ (EyeSt.drewN HE.out _) N HNN.out))
                | (go_at_call 35; exact quiet_first (eyeend_good _ _ _ _ (EyeSt.drewN HE.out _)))
                | (go_at_call 36; exact quiet_first (refend_good _ _ _ _ (RefAt.drewN HX.out _)))))
              go_wp2_with fail
              go_roundw
              case rel => exact ⟨k + 1, _, _, _, by omega, by omega, by go_num, EyeSt.drewN HE.out _, RefAt.drewN HX.out _, Hle, HV, HO.out, below_behind HB.out _⟩
              case measure => simp [intOf]; omega
            · go_wp2_with fail
              go_quiet ((first
                | (go_at_call 23; exact quiet_first (eyeleft_st _ _ _ _ _ (EyeSt.drewN HE.out _) N HNN.out))
                | (go_at_call 35; exact quiet_first (eyeend_bad _ _ _ _ _ (EyeSt.drewN HE.out _) hs))
                | (go_at_call 36; exact quiet_first (refend_bad _ _ _ _ _ (RefAt.drewN HX.out _) hs))))
              go_wp2_with fail
              go_roundw
              case rel => exact ⟨k + 1, _, _, _, by omega, by omega, by go_num, EyeSt.drewN HE.out _, RefAt.drewN HX.out _, Hle, HV, HO.out, below_behind HB.out _⟩
              case measure => simp [intOf]; omega
          · have hqi : (y.toNat : Int) % 4 = 3 := by omega
            clear hq
            go_wp2_with fail
            refine (eyetext_st _ _ _ s wr he (by have := Hle0.out; omega)).mono ?_
            rintro e wa ⟨u1, rfl, hu1, ve1, he1, hk1, hv1⟩
            have hx1 := hx.keeps hk1 hne.out.symm (fun k hk e => by have := he.2.2.2; omega)
            have ho1 := ho.keeps hk1 (fun k hk e => hge.out (by rw [← e]; simpa [Value.ownBlock] using hk))
            have hb1 : Below w.heap.size w wa := hB.trans (hk1.below hB.size (fun i hi => by subst hi; exact he.2.2.2))
            have HP := hid hx1
            go_wp2_with fail
            refine (reftext_st _ _ _ s wa hx1 (by have := Hle0.out; omega)).mono ?_
            rintro e wb ⟨u2, rfl, hu2, vx1, hx2, hk2⟩
            have hu1b := hu1.keeps hk2 (fun k hk e => by have := (hu1.lt k hk).1; have := hx.lt; omega)
            have he2 := EyeAt.keeps he1 hk2 (fun k hk e => by
              rcases hk with h | h
              · exact hne.out (h.symm.trans e)
              · exact HV.out k (hv1 k h) e)
            have ho2 := ho1.keeps hk2 (fun k hk e => hgx.out (by rw [← e]; simpa [Value.ownBlock] using hk))
            have hB2 : Below w.heap.size w wb := hb1.trans (hk2.below hb1.size (fun i hi => by subst hi; exact hx1.2.2.2))
            have hv2 : ∀ k, ve1.ownBlock = some k → k ≠ w5.heap.size := fun k hk => HV.out k (hv1 k hk)
            have hle2 : ((Ink.stText s).2.getD []).length ≤ 400 := Nat.le_trans (stText_le s) Hle0.out
            clear HV Hle0 he hx ho hB he1 hx1 ho1 hb1 hk1 hk2 hv1 HP hu1
            go_wp2_with fail
            refine (same_eq _ _ _ _ hu1b.rd hu2.rd).mono ?_
            rintro e wc ⟨rfl, rfl⟩
            clear hu1b hu2
            obtain ⟨s2, hs2⟩ : ∃ s2, s2 = (Ink.stText s).2 := ⟨_, rfl⟩
            rw [← hs2] at he2 hx2 hle2
            have HE := hid he2
            have HX := hid hx2
            have HO := hid ho2
            have HB := hid hB2
            have Hle := hid hle2
            have HV := hid hv2
            obtain ⟨N, hN⟩ : ∃ N, N = (s2.getD []).length := ⟨_, rfl⟩
            have HNN := hid hN
            have hxc := hx2.cell0
            obtain ⟨xa, xc, exs, _⟩ := hx2.2.1
            rw [← hN] at exs
            subst exs
            clear he2 hx2 ho2 hB2 hle2 hv2 hN
            by_cases hs : s2 = some []
            · clear hs2
              subst hs
              go_wp2_with fail
              go_quiet ((first
                | (go_at_call 23; exact quiet_first (eyeleft_st _ _ _ _ _ (EyeSt.drewN HE.out _) N HNN.out))
                | (go_at_call 35; exact quiet_first (eyeend_good _ _ _ _ (EyeSt.drewN HE.out _)))
                | (go_at_call 36; exact quiet_first (refend_good _ _ _ _ (RefAt.drewN HX.out _)))))
              go_wp2_with fail
              go_roundw
              case rel => exact ⟨k + 1, _, _, _, by omega, by omega, by go_num, EyeSt.drewN HE.out _, RefAt.drewN HX.out _, Hle, HV, HO.out, below_behind HB.out _⟩
              case measure => simp [intOf]; omega
            · go_wp2_with fail
              go_quiet ((first
                | (go_at_call 23; exact quiet_first (eyeleft_st _ _ _ _ _ (EyeSt.drewN HE.out _) N HNN.out))
                | (go_at_call 35; exact quiet_first (eyeend_bad _ _ _ _ _ (EyeSt.drewN HE.out _) hs))
                | (go_at_call 36; exact quiet_first (refend_bad _ _ _ _ _ (RefAt.drewN HX.out _) hs))))
              go_wp2_with fail
              go_roundw
              case rel => exact ⟨k + 1, _, _, _, by omega, by omega, by go_num, EyeSt.drewN HE.out _, RefAt.drewN HX.out _, Hle, HV, HO.out, below_behind HB.out _⟩
              case measure => simp [intOf]; omega
        · obtain rfl : k = 60 := by omega
          rw [show ((60 : Nat) : Int) = 60 from rfl]
          have hf : Rd wr (.slice (some ⟨g2, 0, none⟩) (400) cp4) t := by
            have := ho.front
            rwa [HT.out] at this
          go_wp2_with fail
          refine (same_eq _ _ t wr hf (HRD.out.below hB)).mono ?_
          rintro e wz ⟨rfl, rfl⟩
          have hlast : wr.cell? ⟨g2, 400, none⟩ = some (.int .u8 165) := by
            have := ho.cell (400) (by rw [List.length_append, HT.out]; simp)
            rw [this]
            simp [bv, ← HT.out]
          go_wp2
          go_ret
          exact ⟨rfl, hB⟩
      · obtain rfl : len1 = k := by omega
        have hf : Rd wr (.slice (some ⟨g2, 0, none⟩) (400) cp4) t := by
          have := ho.front
          rwa [HT.out] at this
        go_wp2_with fail
        refine (same_eq _ _ t wr hf (HRD.out.below hB)).mono ?_
        rintro e wz ⟨rfl, rfl⟩
        have hlast : wr.cell? ⟨g2, 400, none⟩ = some (.int .u8 165) := by
          have := ho.cell (400) (by rw [List.length_append, HT.out]; simp)
          rw [this]
          simp [bv, ← HT.out]
        go_wp2
        go_ret
        exact ⟨rfl, hB⟩

/-! ### THE ROW's STEP: WRITTEN OUT: LEAVE IT -/
set_option maxRecDepth 100000 in
theorem lifted (os : Os) (started : os.Started) (H : Type) (enc : TypeId × Value → H) :
    ReturnsInHanded {} Try.checked os 5 .any (Rows.inkReadsSpec.pre6 enc Try.prog Try.f5 Rows.inkReadsRow.domain false) (Rows.inkReadsSpec.post enc Try.prog Try.f5 false true false false) := by
  refine returnsInHanded_of_change (C := Try.checked) own started (by kernel_rfl) Try.func5
    (ChangeSpec.witness6 (enc := enc) (C := Try.checked) false ⟨#[], #[.slice none 0 0, .slice none 0 0], []⟩ 8 (by kernel_rfl) (by kernel_rfl) (by kernel_rfl) (by kernel_rfl)) ?_
  intro W base args ds gs before hval0 hW hcnd _
  have hval : ∀ (j : Nat) t v, Try.f5.params[j]? = some t → args[j]? = some v → Value.okWide Try.prog W .any base t v := hval0
  have hW' := hW
  obtain ⟨p, q, hA0, hV, rfl, hfz, hnd⟩ := hW
  have hA : DataW.TrodAll enc Try.prog W 0 (fun _ => true) true Try.f5.params.toList args.toList ds p := hA0
  rw [Try.params5] at hA hval
  obtain ⟨v0, vs0, d0, ds0, p0, q0, hargs, rfl, rfl, h0, r0⟩ := trodAll_cons hA
  obtain ⟨v1, vs1, d1, ds1, p1, q1, rfl, rfl, rfl, h1, r1⟩ := trodAll_cons r0
  obtain ⟨rfl, rfl, rfl⟩ := trodAll_nil r1
  obtain rfl : args = #[v0, v1] := by cases args; simp_all
  obtain ⟨rfl, rfl⟩ := trodVars_none hV
  obtain ⟨a0, len0, cap0, rfl⟩ := okWide_slice Try.underlying23 (hval 0 23 v0 rfl rfl)
  have k0 := h0
  have lt0 : ∀ x ∈ p0, x.block < W.heap.size := by obtain ⟨m, hm⟩ := k0; exact DataW.trod_lt m _ _ _ hm
  obtain ⟨z0, w0⟩ : ∃ zs, IsRow .u8 W a0 len0 cap0 zs := by
    obtain ⟨fuel, hf⟩ := h0
    rcases open_ints Try.underlying23 Try.underlying5 (by kernel_rfl) hf with ⟨hcs, _⟩ | ⟨x, l, c, zs, hcs, _, hl, hm, hz, _, hcell, hwz⟩
    · simp [Value.cells] at hcs
      obtain ⟨rfl, rfl, rfl⟩ := hcs
      exact ⟨[], .inl ⟨rfl, rfl, rfl, rfl⟩⟩
    · simp [Value.cells] at hcs
      obtain ⟨rfl, rfl, rfl⟩ := hcs
      exact ⟨zs, .inr ⟨_, rfl, hl, hm, by simpa using hz, hcell, hwz⟩⟩
  obtain ⟨a1, len1, cap1, rfl⟩ := okWide_slice Try.underlying23 (hval 1 23 v1 rfl rfl)
  have k1 := h1
  have lt1 : ∀ x ∈ p1, x.block < W.heap.size := by obtain ⟨m, hm⟩ := k1; exact DataW.trod_lt m _ _ _ hm
  obtain ⟨z1, w1⟩ : ∃ zs, IsRow .u8 W a1 len1 cap1 zs := by
    obtain ⟨fuel, hf⟩ := h1
    rcases open_ints Try.underlying23 Try.underlying5 (by kernel_rfl) hf with ⟨hcs, _⟩ | ⟨x, l, c, zs, hcs, _, hl, hm, hz, _, hcell, hwz⟩
    · simp [Value.cells] at hcs
      obtain ⟨rfl, rfl, rfl⟩ := hcs
      exact ⟨[], .inl ⟨rfl, rfl, rfl, rfl⟩⟩
    · simp [Value.cells] at hcs
      obtain ⟨rfl, rfl, rfl⟩ := hcs
      exact ⟨zs, .inr ⟨_, rfl, hl, hm, by simpa using hz, hcell, hwz⟩⟩
  clear hA0 hval0
  refine (walk a0 len0 cap0 z0 a1 len1 cap1 z1 W w0 w1).mono fun e W' ⟨he, bel⟩ => ?_
  subst he
  exact ⟨_, rfl, _, _, _, [], _, [], hW', trodAll_mk1 (shut_bool Try.underlying4 _), (trodAll_cons_mk (Below.trod laidOut (by kernel_rfl) (of_decide_eq_true (by kernel_rfl)) k0 bel lt0) (trodAll_cons_mk (Below.trod laidOut (by kernel_rfl) (of_decide_eq_true (by kernel_rfl)) k1 bel lt1) trodAll_mk0)), rfl, bel.frame _, fun h => by cases h⟩

theorem over : Rows.inkReadsRow.holds Try.pinned (OpenSpec.ofChange Rows.inkReadsSpec) :=
  OpenClaim.holds_of_wide 5 Try.f5 rfl rfl rfl rfl rfl rfl rfl ⟨rfl, rfl, rfl, rfl, rfl⟩ rfl rfl rfl rfl rfl (by kernel_rfl) Try.func5 (by kernel_rfl)
    (of_decide_eq_true (by kernel_rfl)) (by unfold Func.isWrapper; first | (rw [if_pos (by decide +kernel)]; kernel_rfl) | (rw [if_neg (by decide +kernel)]; exact ⟨rfl, rfl⟩))
    (fun os started H enc _ => lifted os started H enc)

/-- ████ THE STATEMENT ████ -/
theorem inkReads_holds : Rows.InkReadsSaid := over
#print axioms inkReads_holds
end Go.Proofs.Ytoglhleljknhcaa.inkReads
