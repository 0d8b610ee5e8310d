/-
  Knots one behind the other are read one by one, and nothing is left: quadrillelaw02.KnotRows returns true for every input, without any condition.
  (The frame behind the walk is the guide's shell, at a slice of slices.)
-/
import Derived.Test.YtoglhleljknhcaaRows
import Derived.WalkKit
import Derived.Test.YtoglhleljknhcaaTurn
import Derived.Test.YtoglhleljknhcaaTie
import Derived.Test.YtoglhleljknhcaaSame
import Derived.Test.YtoglhleljknhcaaMat
import Derived.ProofKit
import Derived.OpenShut
import Derived.ShutString
import Derived.ChangeOld
import Derived.Below
namespace Go.Proofs.Ytoglhleljknhcaa.knotRows
open Go.ChangeShapes Go.WideShapes Go.ChangeAt Go.RowKit
open Go.ChangeMaps (open_string shut_string)
set_option linter.unusedVariables false

theorem own : ownKnob Try.prog.godebug = none := by kernel_rfl
theorem laidOut : laidOutB Try.prog = true := by kernel_rfl

set_option maxRecDepth 100000 in
set_option maxHeartbeats 4000000 in
theorem walk (a0 : Option Addr) (len0 cap0 : Nat) (w : World) (w0 : IsMat w a0 len0 cap0) :
    Calls Try.prog 12 #[.slice a0 len0 cap0] w fun e w' => e = .returned (.bool true) ∧ Below w.heap.size w w' := by
  obtain ⟨hb1, hb2⟩ := w0.bounds
  by_cases hz : len0 = 0
  · subst hz
    go_enter Try.func12, Try.ntmps12
    go_wp2_with fail
    refine (awake2_any w).mono ?_
    rintro e w1 ⟨rfl, hb1⟩
    go_wp2_with fail
    refine wp_loop_rounds 1 ?_
    rw [rounds_succ]
    go_wp2_with fail
    refine wp_loop_rounds 1 ?_
    rw [rounds_succ]
    go_wp2
    go_ret
    exact ⟨rfl, hb1⟩
  obtain ⟨b, off, rfl, hbw, hrows⟩ := w0.rows (by omega)
  clear w0
  by_cases h6 : len0 ≤ 20
  · obtain ⟨ts, htl, hts⟩ := hrows len0 (by omega)
    have HTL := hid htl
    have HTS := hid hts
    have hclen := hid (cat_length ts (fun r hr => by
      obtain ⟨A, L, C, _, _, _, h, _⟩ := hts r (by omega)
      omega))
    clear htl hts
    go_enter Try.func12, Try.ntmps12
    go_wp2_with fail
    refine (awake2_any w).mono ?_
    rintro e w1 ⟨rfl, hb1⟩
    go_wp2_with fail
    go_loopw [3, 21] (fun v i wr => ∃ (j : Nat) (ad : Option Addr) (n cp : Nat), j ≤ len0 ∧ i = .int .i64 j ∧ v = .slice ad n cp ∧ Own wr w.heap.size (.slice ad n cp) (cat (ts.take j)) ∧ Below w.heap.size w wr) (fun _ i _ => len0 - (intOf i).toNat)
    case atStart => exact ⟨0, none, 0, 0, by omega, rfl, rfl, Own.nil _ _, hb1⟩
    case round =>
      obtain ⟨j, ad, n, cp, hj, rfl, rfl, hown, hb⟩ := hrel
      by_cases hlt : j < len0
      · obtain ⟨A, L, C, hcell0, hLC, hC, hlen, hrd0⟩ := HTS.out j hlt
        have hcell := (hb.cell (p := ⟨b, off + j, none⟩) hbw).trans hcell0
        have hrd := hrd0.below hb
        obtain ⟨t, ht⟩ : ∃ t, t = ts.getD j [] := ⟨_, rfl⟩
        rw [← ht] at hlen hrd
        have HT := hid ht
        have hct := hid (cat_take ts j (by rw [HTL.out]; exact hlt))
        have hcl := hid (hclen.out j (by rw [HTL.out]; omega))
        have hne := hown.caps
        have HN := hid hne.1
        clear hcell0 hrd0 ht hne
        by_cases hL : L ≤ 100
        · rw [show min L 100 = L by omega] at hrd hlen
          have HLEN := hid hlen
          clear hlen
          go_wp2_with fail
          go_quiet (fail)
          obtain ⟨wq, hwq⟩ : ∃ wq, wq = wr.drewN nq := ⟨_, rfl⟩
          have hbq : Below w.heap.size w wq := by rw [hwq]; exact below_behind hb nq
          have hownq : Own wq w.heap.size (.slice ad n cp) (cat (ts.take j)) := by rw [hwq]; exact hown
          have hrdq : Rd wq (.slice A L C) t := by rw [hwq]; exact hrd
          rw [← hwq]
          clear hwq hb hown hrd
          go_wp2_with (first
            | (at_builtin; go_must (refine appk rfl (.tmp 36) (.tmp 37) rfl w.heap.size (.slice (some ⟨wq.heap.size, 0, none⟩) 0 0) _ [] t t L rfl rfl (Own.empty wq _ hbq.size) (hrdq.alloc _) (by rw [List.length_nil, Nat.zero_add, HLEN.out]) rfl (by rw [List.length_nil, HLEN.out]; omega) (by have := hbq.size; simp; omega) ?_); intro ad2 cp2 w2 hown2 hgrow2; have hb2 : Below w.heap.size w w2 := (Own.empty wq _ hbq.size).grown (hbq.alloc hbq.size _) hgrow2 (Nat.le_refl _) (by have := hbq.size; simp; omega); have hp2 : Own w2 w.heap.size (.slice ad n cp) (cat (ts.take j)) := (hownq.alloc _).keeps (Keeps.of_grown hgrow2) (fun k hk e => by have := (hownq.lt k hk).2; simp [Value.ownBlock] at e; omega); clear hgrow2 hownq hrdq hbq)
            | fail)
          refine (tie_any _ t _ hown2.rd (by rw [HLEN.out]; omega)).mono ?_
          rintro e w3 ⟨kv, rfl, hk3, hb3⟩
          have hp3 := hp2.below hb3
          have hB3 : Below w.heap.size w w3 := hb2.trans (hb3.mono hb2.size)
          clear hown2 hb2 hp2
          go_wp2_with (first
            | (at_builtin; go_must (refine appk rfl (.tmp 44) (.tmp 45) rfl w.heap.size (.slice ad n cp) kv (cat (ts.take j)) (Knot.knot t) (cat (ts.take (j + 1))) (n + (t.length + 6)) rfl rfl hp3 hk3.rd (by rw [Knot.knot_length, HN.out]) (by rw [hct.out, HT.out]) (by rw [Knot.knot_length]; have := hcl.out; have := HLEN.out; omega) hB3.size ?_); intro ad4 cp4 w4 hown4 hgrow4)
            | fail)
          go_roundw
          case rel => exact ⟨j + 1, ad4, _, cp4, by omega, by go_num, rfl, hown4, hp3.grown hB3 hgrow4 (Nat.le_refl _) hB3.size⟩
          case measure => simp [intOf]; omega
        · rw [show min L 100 = 100 by omega] at hrd hlen
          have HLEN := hid hlen
          clear hlen
          go_wp2_with fail
          go_quiet (fail)
          obtain ⟨wq, hwq⟩ : ∃ wq, wq = wr.drewN nq := ⟨_, rfl⟩
          have hbq : Below w.heap.size w wq := by rw [hwq]; exact below_behind hb nq
          have hownq : Own wq w.heap.size (.slice ad n cp) (cat (ts.take j)) := by rw [hwq]; exact hown
          have hrdq : Rd wq (.slice A 100 C) t := by rw [hwq]; exact hrd
          rw [← hwq]
          clear hwq hb hown hrd
          go_wp2_with (first
            | (at_builtin; go_must (refine appk rfl (.tmp 36) (.tmp 37) rfl w.heap.size (.slice (some ⟨wq.heap.size, 0, none⟩) 0 0) _ [] t t 100 rfl rfl (Own.empty wq _ hbq.size) (hrdq.alloc _) (by rw [List.length_nil, Nat.zero_add, HLEN.out]) rfl (by rw [List.length_nil, HLEN.out]; omega) (by have := hbq.size; simp; omega) ?_); intro ad2 cp2 w2 hown2 hgrow2; have hb2 : Below w.heap.size w w2 := (Own.empty wq _ hbq.size).grown (hbq.alloc hbq.size _) hgrow2 (Nat.le_refl _) (by have := hbq.size; simp; omega); have hp2 : Own w2 w.heap.size (.slice ad n cp) (cat (ts.take j)) := (hownq.alloc _).keeps (Keeps.of_grown hgrow2) (fun k hk e => by have := (hownq.lt k hk).2; simp [Value.ownBlock] at e; omega); clear hgrow2 hownq hrdq hbq)
            | fail)
          refine (tie_any _ t _ hown2.rd (by rw [HLEN.out]; omega)).mono ?_
          rintro e w3 ⟨kv, rfl, hk3, hb3⟩
          have hp3 := hp2.below hb3
          have hB3 : Below w.heap.size w w3 := hb2.trans (hb3.mono hb2.size)
          clear hown2 hb2 hp2
          go_wp2_with (first
            | (at_builtin; go_must (refine appk rfl (.tmp 44) (.tmp 45) rfl w.heap.size (.slice ad n cp) kv (cat (ts.take j)) (Knot.knot t) (cat (ts.take (j + 1))) (n + (t.length + 6)) rfl rfl hp3 hk3.rd (by rw [Knot.knot_length, HN.out]) (by rw [hct.out, HT.out]) (by rw [Knot.knot_length]; have := hcl.out; have := HLEN.out; omega) hB3.size ?_); intro ad4 cp4 w4 hown4 hgrow4)
            | fail)
          go_roundw
          case rel => exact ⟨j + 1, ad4, _, cp4, by omega, by go_num, rfl, hown4, hp3.grown hB3 hgrow4 (Nat.le_refl _) hB3.size⟩
          case measure => simp [intOf]; omega
      · obtain rfl : len0 = j := by omega
        have hfull : cat (ts.take len0) = cat (ts.drop 0) := by rw [List.take_of_length_le (by rw [HTL.out]; exact Nat.le_refl _), List.drop_zero]
        rw [hfull] at hown
        clear hfull
        go_wp2_with fail
        go_loopw [3, 50] (fun v i wr => ∃ (j : Nat) (ad : Option Addr) (n cp : Nat), j ≤ len0 ∧ i = .int .i64 j ∧ v = .slice ad n cp ∧ Own wr w.heap.size (.slice ad n cp) (cat (ts.drop j)) ∧ Below w.heap.size w wr) (fun _ i _ => len0 - (intOf i).toNat)
        case atStart => exact ⟨0, ad, n, cp, by omega, rfl, rfl, hown, hb⟩
        case round =>
          obtain ⟨j, ad, n, cp, hj, rfl, rfl, hown, hb⟩ := hrel
          by_cases hlt : j < len0
          · obtain ⟨A, L, C, hcell0, hLC, hC, hlen, hrd0⟩ := HTS.out j hlt
            have hrd := hrd0.below hb
            obtain ⟨t, ht⟩ : ∃ t, t = ts.getD j [] := ⟨_, rfl⟩
            rw [← ht] at hlen hrd
            have hcd := cat_drop ts j (by rw [HTL.out]; exact hlt)
            rw [← ht] at hcd
            have hcl : (cat (ts.drop j)).length ≤ 140737488355328 := by
              have h1 := cat_drop_length ts j
              have h2 := hclen.out len0 (by rw [HTL.out]; exact Nat.le_refl _)
              rw [List.take_of_length_le (by rw [HTL.out]; exact Nat.le_refl _)] at h2
              omega
            have hE := hid (show Knot.err (cat (ts.drop j)) = 0 by rw [hcd]; exact Knot.err_knot t _ (by omega))
            have hT := hid (show Knot.text (cat (ts.drop j)) = t by rw [hcd]; exact Knot.text_knot t _ (by omega))
            have hR := hid (show Knot.rest (cat (ts.drop j)) = cat (ts.drop (j + 1)) by rw [hcd]; exact Knot.rest_knot t _ (by omega))
            have HCL := hid hcl
            clear hcl hcd ht
            by_cases hL : L ≤ 100
            · rw [show min L 100 = L by omega] at hrd hlen
              clear hlen
              go_wp2_with fail
              refine (next_any _ (cat (ts.drop j)) _ hown.rd HCL.out).mono ?_
              rintro e w3 ⟨tv, rv, rfl, ht3, hr3, hb3⟩
              rw [hE.out]
              rw [hT.out] at ht3
              rw [hR.out] at hr3
              have hB3 : Below w.heap.size w w3 := hb.trans (hb3.mono hb.size)
              have hcell := (hB3.cell (p := ⟨b, off + j, none⟩) hbw).trans hcell0
              have hrd3 := hrd.below hb3
              have hr3' := hr3.base (fun q hq => Nat.le_trans hb.size (hr3.lt q hq).1)
              obtain ⟨ra, rn, rc, rfl⟩ : ∃ ra rn rc, rv = .slice ra rn rc := by
                obtain ⟨ra, rc, e, _⟩ := hr3.rd
                exact ⟨ra, _, rc, e⟩
              clear hb hown hrd hcell0 hb3 hr3
              go_wp2_with fail
              go_quiet ((go_at_call 18; exact quiet_first (same_eq _ _ t _ (ht3.rd.drewN _) (hrd3.drewN _))))
              go_wp2_with fail
              go_roundw
              case rel => exact ⟨j + 1, ra, rn, rc, by omega, by go_num, rfl, hr3', below_behind hB3 _⟩
              case measure => simp [intOf]; omega
            · rw [show min L 100 = 100 by omega] at hrd hlen
              clear hlen
              go_wp2_with fail
              refine (next_any _ (cat (ts.drop j)) _ hown.rd HCL.out).mono ?_
              rintro e w3 ⟨tv, rv, rfl, ht3, hr3, hb3⟩
              rw [hE.out]
              rw [hT.out] at ht3
              rw [hR.out] at hr3
              have hB3 : Below w.heap.size w w3 := hb.trans (hb3.mono hb.size)
              have hcell := (hB3.cell (p := ⟨b, off + j, none⟩) hbw).trans hcell0
              have hrd3 := hrd.below hb3
              have hr3' := hr3.base (fun q hq => Nat.le_trans hb.size (hr3.lt q hq).1)
              obtain ⟨ra, rn, rc, rfl⟩ : ∃ ra rn rc, rv = .slice ra rn rc := by
                obtain ⟨ra, rc, e, _⟩ := hr3.rd
                exact ⟨ra, _, rc, e⟩
              clear hb hown hrd hcell0 hb3 hr3
              go_wp2_with fail
              go_quiet ((go_at_call 18; exact quiet_first (same_eq _ _ t _ (ht3.rd.drewN _) (hrd3.drewN _))))
              go_wp2_with fail
              go_roundw
              case rel => exact ⟨j + 1, ra, rn, rc, by omega, by go_num, rfl, hr3', below_behind hB3 _⟩
              case measure => simp [intOf]; omega
          · obtain rfl : len0 = j := by omega
            have hn : n = 0 := by
              have := hown.caps.1
              rw [this, List.drop_eq_nil_of_le (by rw [HTL.out]; exact Nat.le_refl _)]
              rfl
            subst hn
            go_wp2
            go_ret
            exact ⟨rfl, hb⟩
  · obtain ⟨ts, htl, hts⟩ := hrows 20 (by omega)
    have HTL := hid htl
    have HTS := hid hts
    have hclen := hid (cat_length ts (fun r hr => by
      obtain ⟨A, L, C, _, _, _, h, _⟩ := hts r (by omega)
      omega))
    clear htl hts
    go_enter Try.func12, Try.ntmps12
    go_wp2_with fail
    refine (awake2_any w).mono ?_
    rintro e w1 ⟨rfl, hb1⟩
    go_wp2_with fail
    go_loopw [3, 21] (fun v i wr => ∃ (j : Nat) (ad : Option Addr) (n cp : Nat), j ≤ 20 ∧ i = .int .i64 j ∧ v = .slice ad n cp ∧ Own wr w.heap.size (.slice ad n cp) (cat (ts.take j)) ∧ Below w.heap.size w wr) (fun _ i _ => 20 - (intOf i).toNat)
    case atStart => exact ⟨0, none, 0, 0, by omega, rfl, rfl, Own.nil _ _, hb1⟩
    case round =>
      obtain ⟨j, ad, n, cp, hj, rfl, rfl, hown, hb⟩ := hrel
      by_cases hlt : j < 20
      · obtain ⟨A, L, C, hcell0, hLC, hC, hlen, hrd0⟩ := HTS.out j hlt
        have hcell := (hb.cell (p := ⟨b, off + j, none⟩) hbw).trans hcell0
        have hrd := hrd0.below hb
        obtain ⟨t, ht⟩ : ∃ t, t = ts.getD j [] := ⟨_, rfl⟩
        rw [← ht] at hlen hrd
        have HT := hid ht
        have hct := hid (cat_take ts j (by rw [HTL.out]; exact hlt))
        have hcl := hid (hclen.out j (by rw [HTL.out]; omega))
        have hne := hown.caps
        have HN := hid hne.1
        clear hcell0 hrd0 ht hne
        by_cases hL : L ≤ 100
        · rw [show min L 100 = L by omega] at hrd hlen
          have HLEN := hid hlen
          clear hlen
          go_wp2_with fail
          go_quiet (fail)
          obtain ⟨wq, hwq⟩ : ∃ wq, wq = wr.drewN nq := ⟨_, rfl⟩
          have hbq : Below w.heap.size w wq := by rw [hwq]; exact below_behind hb nq
          have hownq : Own wq w.heap.size (.slice ad n cp) (cat (ts.take j)) := by rw [hwq]; exact hown
          have hrdq : Rd wq (.slice A L C) t := by rw [hwq]; exact hrd
          rw [← hwq]
          clear hwq hb hown hrd
          go_wp2_with (first
            | (at_builtin; go_must (refine appk rfl (.tmp 36) (.tmp 37) rfl w.heap.size (.slice (some ⟨wq.heap.size, 0, none⟩) 0 0) _ [] t t L rfl rfl (Own.empty wq _ hbq.size) (hrdq.alloc _) (by rw [List.length_nil, Nat.zero_add, HLEN.out]) rfl (by rw [List.length_nil, HLEN.out]; omega) (by have := hbq.size; simp; omega) ?_); intro ad2 cp2 w2 hown2 hgrow2; have hb2 : Below w.heap.size w w2 := (Own.empty wq _ hbq.size).grown (hbq.alloc hbq.size _) hgrow2 (Nat.le_refl _) (by have := hbq.size; simp; omega); have hp2 : Own w2 w.heap.size (.slice ad n cp) (cat (ts.take j)) := (hownq.alloc _).keeps (Keeps.of_grown hgrow2) (fun k hk e => by have := (hownq.lt k hk).2; simp [Value.ownBlock] at e; omega); clear hgrow2 hownq hrdq hbq)
            | fail)
          refine (tie_any _ t _ hown2.rd (by rw [HLEN.out]; omega)).mono ?_
          rintro e w3 ⟨kv, rfl, hk3, hb3⟩
          have hp3 := hp2.below hb3
          have hB3 : Below w.heap.size w w3 := hb2.trans (hb3.mono hb2.size)
          clear hown2 hb2 hp2
          go_wp2_with (first
            | (at_builtin; go_must (refine appk rfl (.tmp 44) (.tmp 45) rfl w.heap.size (.slice ad n cp) kv (cat (ts.take j)) (Knot.knot t) (cat (ts.take (j + 1))) (n + (t.length + 6)) rfl rfl hp3 hk3.rd (by rw [Knot.knot_length, HN.out]) (by rw [hct.out, HT.out]) (by rw [Knot.knot_length]; have := hcl.out; have := HLEN.out; omega) hB3.size ?_); intro ad4 cp4 w4 hown4 hgrow4)
            | fail)
          go_roundw
          case rel => exact ⟨j + 1, ad4, _, cp4, by omega, by go_num, rfl, hown4, hp3.grown hB3 hgrow4 (Nat.le_refl _) hB3.size⟩
          case measure => simp [intOf]; omega
        · rw [show min L 100 = 100 by omega] at hrd hlen
          have HLEN := hid hlen
          clear hlen
          go_wp2_with fail
          go_quiet (fail)
          obtain ⟨wq, hwq⟩ : ∃ wq, wq = wr.drewN nq := ⟨_, rfl⟩
          have hbq : Below w.heap.size w wq := by rw [hwq]; exact below_behind hb nq
          have hownq : Own wq w.heap.size (.slice ad n cp) (cat (ts.take j)) := by rw [hwq]; exact hown
          have hrdq : Rd wq (.slice A 100 C) t := by rw [hwq]; exact hrd
          rw [← hwq]
          clear hwq hb hown hrd
          go_wp2_with (first
            | (at_builtin; go_must (refine appk rfl (.tmp 36) (.tmp 37) rfl w.heap.size (.slice (some ⟨wq.heap.size, 0, none⟩) 0 0) _ [] t t 100 rfl rfl (Own.empty wq _ hbq.size) (hrdq.alloc _) (by rw [List.length_nil, Nat.zero_add, HLEN.out]) rfl (by rw [List.length_nil, HLEN.out]; omega) (by have := hbq.size; simp; omega) ?_); intro ad2 cp2 w2 hown2 hgrow2; have hb2 : Below w.heap.size w w2 := (Own.empty wq _ hbq.size).grown (hbq.alloc hbq.size _) hgrow2 (Nat.le_refl _) (by have := hbq.size; simp; omega); have hp2 : Own w2 w.heap.size (.slice ad n cp) (cat (ts.take j)) := (hownq.alloc _).keeps (Keeps.of_grown hgrow2) (fun k hk e => by have := (hownq.lt k hk).2; simp [Value.ownBlock] at e; omega); clear hgrow2 hownq hrdq hbq)
            | fail)
          refine (tie_any _ t _ hown2.rd (by rw [HLEN.out]; omega)).mono ?_
          rintro e w3 ⟨kv, rfl, hk3, hb3⟩
          have hp3 := hp2.below hb3
          have hB3 : Below w.heap.size w w3 := hb2.trans (hb3.mono hb2.size)
          clear hown2 hb2 hp2
          go_wp2_with (first
            | (at_builtin; go_must (refine appk rfl (.tmp 44) (.tmp 45) rfl w.heap.size (.slice ad n cp) kv (cat (ts.take j)) (Knot.knot t) (cat (ts.take (j + 1))) (n + (t.length + 6)) rfl rfl hp3 hk3.rd (by rw [Knot.knot_length, HN.out]) (by rw [hct.out, HT.out]) (by rw [Knot.knot_length]; have := hcl.out; have := HLEN.out; omega) hB3.size ?_); intro ad4 cp4 w4 hown4 hgrow4)
            | fail)
          go_roundw
          case rel => exact ⟨j + 1, ad4, _, cp4, by omega, by go_num, rfl, hown4, hp3.grown hB3 hgrow4 (Nat.le_refl _) hB3.size⟩
          case measure => simp [intOf]; omega
      · obtain rfl : 20 = j := by omega
        rw [show ((20 : Nat) : Int) = 20 from rfl]
        have hfull : cat (ts.take 20) = cat (ts.drop 0) := by rw [List.take_of_length_le (by rw [HTL.out]; exact Nat.le_refl _), List.drop_zero]
        rw [hfull] at hown
        clear hfull
        go_wp2_with fail
        go_loopw [3, 50] (fun v i wr => ∃ (j : Nat) (ad : Option Addr) (n cp : Nat), j ≤ 20 ∧ i = .int .i64 j ∧ v = .slice ad n cp ∧ Own wr w.heap.size (.slice ad n cp) (cat (ts.drop j)) ∧ Below w.heap.size w wr) (fun _ i _ => 20 - (intOf i).toNat)
        case atStart => exact ⟨0, ad, n, cp, by omega, rfl, rfl, hown, hb⟩
        case round =>
          obtain ⟨j, ad, n, cp, hj, rfl, rfl, hown, hb⟩ := hrel
          by_cases hlt : j < 20
          · obtain ⟨A, L, C, hcell0, hLC, hC, hlen, hrd0⟩ := HTS.out j hlt
            have hrd := hrd0.below hb
            obtain ⟨t, ht⟩ : ∃ t, t = ts.getD j [] := ⟨_, rfl⟩
            rw [← ht] at hlen hrd
            have hcd := cat_drop ts j (by rw [HTL.out]; exact hlt)
            rw [← ht] at hcd
            have hcl : (cat (ts.drop j)).length ≤ 140737488355328 := by
              have h1 := cat_drop_length ts j
              have h2 := hclen.out 20 (by rw [HTL.out]; exact Nat.le_refl _)
              rw [List.take_of_length_le (by rw [HTL.out]; exact Nat.le_refl _)] at h2
              omega
            have hE := hid (show Knot.err (cat (ts.drop j)) = 0 by rw [hcd]; exact Knot.err_knot t _ (by omega))
            have hT := hid (show Knot.text (cat (ts.drop j)) = t by rw [hcd]; exact Knot.text_knot t _ (by omega))
            have hR := hid (show Knot.rest (cat (ts.drop j)) = cat (ts.drop (j + 1)) by rw [hcd]; exact Knot.rest_knot t _ (by omega))
            have HCL := hid hcl
            clear hcl hcd ht
            by_cases hL : L ≤ 100
            · rw [show min L 100 = L by omega] at hrd hlen
              clear hlen
              go_wp2_with fail
              refine (next_any _ (cat (ts.drop j)) _ hown.rd HCL.out).mono ?_
              rintro e w3 ⟨tv, rv, rfl, ht3, hr3, hb3⟩
              rw [hE.out]
              rw [hT.out] at ht3
              rw [hR.out] at hr3
              have hB3 : Below w.heap.size w w3 := hb.trans (hb3.mono hb.size)
              have hcell := (hB3.cell (p := ⟨b, off + j, none⟩) hbw).trans hcell0
              have hrd3 := hrd.below hb3
              have hr3' := hr3.base (fun q hq => Nat.le_trans hb.size (hr3.lt q hq).1)
              obtain ⟨ra, rn, rc, rfl⟩ : ∃ ra rn rc, rv = .slice ra rn rc := by
                obtain ⟨ra, rc, e, _⟩ := hr3.rd
                exact ⟨ra, _, rc, e⟩
              clear hb hown hrd hcell0 hb3 hr3
              go_wp2_with fail
              go_quiet ((go_at_call 18; exact quiet_first (same_eq _ _ t _ (ht3.rd.drewN _) (hrd3.drewN _))))
              go_wp2_with fail
              go_roundw
              case rel => exact ⟨j + 1, ra, rn, rc, by omega, by go_num, rfl, hr3', below_behind hB3 _⟩
              case measure => simp [intOf]; omega
            · rw [show min L 100 = 100 by omega] at hrd hlen
              clear hlen
              go_wp2_with fail
              refine (next_any _ (cat (ts.drop j)) _ hown.rd HCL.out).mono ?_
              rintro e w3 ⟨tv, rv, rfl, ht3, hr3, hb3⟩
              rw [hE.out]
              rw [hT.out] at ht3
              rw [hR.out] at hr3
              have hB3 : Below w.heap.size w w3 := hb.trans (hb3.mono hb.size)
              have hcell := (hB3.cell (p := ⟨b, off + j, none⟩) hbw).trans hcell0
              have hrd3 := hrd.below hb3
              have hr3' := hr3.base (fun q hq => Nat.le_trans hb.size (hr3.lt q hq).1)
              obtain ⟨ra, rn, rc, rfl⟩ : ∃ ra rn rc, rv = .slice ra rn rc := by
                obtain ⟨ra, rc, e, _⟩ := hr3.rd
                exact ⟨ra, _, rc, e⟩
              clear hb hown hrd hcell0 hb3 hr3
              go_wp2_with fail
              go_quiet ((go_at_call 18; exact quiet_first (same_eq _ _ t _ (ht3.rd.drewN _) (hrd3.drewN _))))
              go_wp2_with fail
              go_roundw
              case rel => exact ⟨j + 1, ra, rn, rc, by omega, by go_num, rfl, hr3', below_behind hB3 _⟩
              case measure => simp [intOf]; omega
          · obtain rfl : 20 = j := by omega
            have hn : n = 0 := by
              have := hown.caps.1
              rw [this, List.drop_eq_nil_of_le (by rw [HTL.out]; exact Nat.le_refl _)]
              rfl
            subst hn
            go_wp2
            go_ret
            exact ⟨rfl, hb⟩

/-! ### THE ROW's STEP: WRITTEN OUT: LEAVE IT -/
set_option maxRecDepth 100000 in
theorem lifted (os : Os) (started : os.Started) (H : Type) (enc : TypeId × Value → H) :
    ReturnsInHanded {} Try.checked os 12 .any (Rows.knotRowsSpec.pre6 enc Try.prog Try.f12 Rows.knotRowsRow.domain false) (Rows.knotRowsSpec.post enc Try.prog Try.f12 false true false false) := by
  refine returnsInHanded_of_change (C := Try.checked) own started (by kernel_rfl) Try.func12
    (ChangeSpec.witness6 (enc := enc) (C := Try.checked) false ⟨#[], #[.slice none 0 0], []⟩ 8 (by kernel_rfl) (by kernel_rfl) (by kernel_rfl) (by kernel_rfl)) ?_
  intro W base args ds gs before hval0 hW hcnd _
  have hval : ∀ (j : Nat) t v, Try.f12.params[j]? = some t → args[j]? = some v → Value.okWide Try.prog W .any base t v := hval0
  have hW' := hW
  obtain ⟨p, q, hA0, hV, rfl, hfz, hnd⟩ := hW
  have hA : DataW.TrodAll enc Try.prog W 0 (fun _ => true) true Try.f12.params.toList args.toList ds p := hA0
  rw [Try.params12] at hA hval
  obtain ⟨v0, vs0, d0, ds0, p0, q0, hargs, rfl, rfl, h0, r0⟩ := trodAll_cons hA
  obtain ⟨rfl, rfl, rfl⟩ := trodAll_nil r0
  obtain rfl : args = #[v0] := by cases args; simp_all
  obtain ⟨rfl, rfl⟩ := trodVars_none hV
  obtain ⟨a0, len0, cap0, rfl⟩ := okWide_slice Try.underlying63 (hval 0 63 v0 rfl rfl)
  have k0 := h0
  have lt0 : ∀ x ∈ p0, x.block < W.heap.size := by obtain ⟨m, hm⟩ := k0; exact DataW.trod_lt m _ _ _ hm
  have w0 : IsMat W a0 len0 cap0 := by
    obtain ⟨fuel, hf⟩ := h0
    rcases Deep.open_int_rows Try.underlying63 Try.underlying23 Try.underlying5 (by kernel_rfl) (by kernel_rfl) hf with ⟨hcs, _⟩ | ⟨x, l, c, A, L, C, Z, hcs, _, hl, hm, _, hr⟩
    · simp [Value.cells] at hcs
      obtain ⟨rfl, rfl, rfl⟩ := hcs
      exact .inl ⟨rfl, rfl, rfl⟩
    · simp [Value.cells] at hcs
      obtain ⟨rfl, rfl, rfl⟩ := hcs
      refine .inr ⟨x, rfl, hl, hm, fun r hrl => ?_⟩
      obtain ⟨c1, c2, c3, c4, c5, c6, c7⟩ := hr r (by omega)
      refine ⟨A r, L r, C r, Z r, c1, ?_⟩
      cases hA : A r with
      | none =>
        have hC := c6 hA
        exact .inl ⟨rfl, by omega, hC, List.eq_nil_of_length_eq_zero (by omega)⟩
      | some y => exact .inr ⟨y, rfl, c2, c3, c4, fun i hi => (c7 y hA).2 i (by omega), c5⟩
  clear hA0 hval0
  refine (walk a0 len0 cap0 W w0).mono fun e W' ⟨he, bel⟩ => ?_
  subst he
  exact ⟨_, rfl, _, _, _, [], _, [], hW', trodAll_mk1 (shut_bool Try.underlying4 _), (trodAll_cons_mk (Below.trod laidOut (by kernel_rfl) (of_decide_eq_true (by kernel_rfl)) k0 bel lt0) trodAll_mk0), rfl, bel.frame _, fun h => by cases h⟩

theorem over : Rows.knotRowsRow.holds Try.pinned (OpenSpec.ofChange Rows.knotRowsSpec) :=
  OpenClaim.holds_of_wide 12 Try.f12 rfl rfl rfl rfl rfl rfl rfl ⟨rfl, rfl, rfl, rfl, rfl⟩ rfl rfl rfl rfl rfl (by kernel_rfl) Try.func12 (by kernel_rfl)
    (of_decide_eq_true (by kernel_rfl)) (by unfold Func.isWrapper; first | (rw [if_pos (by decide +kernel)]; kernel_rfl) | (rw [if_neg (by decide +kernel)]; exact ⟨rfl, rfl⟩))
    (fun os started H enc _ => lifted os started H enc)

/-- ████ THE STATEMENT ████ -/
theorem knotRows_holds : Rows.KnotRowsSaid := over
#print axioms knotRows_holds
end Go.Proofs.Ytoglhleljknhcaa.knotRows
