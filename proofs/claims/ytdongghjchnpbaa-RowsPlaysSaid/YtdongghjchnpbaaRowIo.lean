/-
  The iterator over the nodes of a row: its contract, at one predicate.
-/
import Derived.Test.YtdongghjchnpbaaRowI
import Derived.RangeFuncNested
import Derived.RangeFuncBound
import Derived.RangeFuncBox
import Derived.RangeFuncCalls
import Derived.RangeFuncLeaves
import Derived.Shelf.Abstract
import Derived.Shelf.RegionOpen
import Derived.WalkKit
import Derived.OwnWalkIn
import Derived.TacticsInMore
import Derived.LoopNIn
import Derived.LoopIn
import Derived.BigRegionIn
import Derived.Stop.RegionWithIn
namespace Go.Proofs.Ytdongghjchnpbaa
open Go.RowKit Go.Shelf
set_option linter.unusedVariables false
attribute [local go_sem] Oper.semAt_some

/-- What is asked of a node: the same in every world that keeps what is kept. -/
def Asks_open (Bc : Nat) (n0 lo hi row : Nat) (m : Mx) (p : Nat → Bool) (w : World) : Prop :=
  ∀ (W : World) (k : Nat), Keeps (Apart n0 lo hi) w W → k < m.n → Calls Try.prog 70 #[.int .i64 k, .int .u32 (m.c (16 * row + k) : Nat), .pointer (some ⟨Bc, 0, none⟩)] W fun e w' => e = .returned (.bool (p k)) ∧ W = w'

set_option maxHeartbeats 4000000 in
set_option maxRecDepth 100000 in
theorem where_open (n : Nat) (B1 B2 B3 Bc n0 lo hi b row : Nat) (m : Mx) (p : Nat → Bool) (w : World) (hm : MxAt w b m) (hrow : row < m.r) (hb : b < n0)
    (h1 : Boxed w B1 24 (.pointer (some ⟨b, 0, none⟩))) (h2 : Boxed w B2 128 (.func (.func 70) #[] #[.pointer (some ⟨Bc, 0, none⟩)])) (h3 : Boxed w B3 3 (.int .i64 row))
    (i1 : lo ≤ B1 ∧ B1 < hi) (i2 : lo ≤ B2 ∧ B2 < hi) (i3 : lo ≤ B3 ∧ B3 < hi) (hp : Asks_open Bc n0 lo hi row m p w) :
    SeqStopsK Fence.wide n Try.prog 84 #[.pointer (some ⟨B1, 0, none⟩), .pointer (some ⟨B2, 0, none⟩), .pointer (some ⟨B3, 0, none⟩)] (fun x : Fin 16 => #[Value.int .i64 (x.val : Nat)]) (Keeps (Apart n0 lo hi)) (fun ys => ys = (m.at p).map nd) (fun pre => pre <+: (m.at p).map nd) 16 w := fun l J Jx W hW hJ hJx hY h0 => by
  have hkW : Keeps (Apart n0 lo hi) w W := ⟨hW.os, hW.tape, hW.output, hW.size, fun k hk _ => hW.block k hk⟩
  have hmW := hm.block (hW.block b hm.lt)
  have hcn := hmW.cn
  have hn16 := hm.n16
  have hr8 := hm.r8
  have c1 : W.cell? ⟨B1, 0, none⟩ = some (.pointer (some ⟨b, 0, none⟩)) := (hW.cell (p := ⟨B1, 0, none⟩) h1.lt).trans h1.cell
  have HP := hid hp
  have HM := hid hm
  have HB1 := hid h1
  have HB2 := hid h2
  have HB3 := hid h3
  have HKW := hid hkW
  have HY := hid hY
  have HAB := hid hJ
  clear hp hm h1 h2 h3 hkW hmW hY hJ hJx
  refine callsIn_of_wp Try.func84 rfl trivial ?_ rfl
  simp only [Try.ntmps84, List.size_toArray, List.length_cons, List.length_nil, Nat.reduceAdd, Nat.reduceSub, Array.replicate_succ, Array.replicate_zero, List.push_toArray, List.append_toArray, List.nil_append, List.cons_append]
  gi_wp2
  gi_loopw [10] (fun i wr => ∃ k : Nat, k ≤ m.n ∧ i = .int .i64 k ∧ J (((List.range k).filter p).map nd) wr ∧ Keeps (Apart n0 lo hi) w wr) (fun i _ => m.n - (intOf i).toNat)
  case atStart => exact ⟨0, Nat.zero_le _, rfl, by simpa using h0, HKW.out⟩
  case round =>
    obtain ⟨k, hk, rfl, hJ, hK⟩ := hrel
    have HJ := hid hJ
    have HK := hid hK
    clear hJ h0
    by_cases hlt : k < m.n
    · have d1 := (show Boxed wr B1 _ _ from hK.block' HB1.out (apart_in i1.1 i1.2)).cell
      have d2 := (show Boxed wr B2 _ _ from hK.block' HB2.out (apart_in i2.1 i2.2)).cell
      have d3 := (show Boxed wr B3 _ _ from hK.block' HB3.out (apart_in i3.1 i3.2)).cell
      have hmr := HM.out.block (hK.block b HM.out.lt (apart_low hb))
      have dc := hmr.cc (row * 16 + k) (by omega)
      rw [show 2 + (row * 16 + k) = 2 + row * 16 + k by omega, show row * 16 + k = 16 * row + k by omega] at dc
      have hki : (k : Int) < 16 := by omega
      have hri : (row : Int) < 8 := by omega
      clear hK hmr
      have hJd : J (((List.range k).filter p).map nd) wr.drew := HAB.out _ wr wr.drew none HJ.out ⟨rfl, rfl, rfl, Nat.le_refl _, fun _ _ _ => rfl⟩ (fun r e => by cases e)
      have HKD := hid HK.out.drew
      cases hpk : p k with
      | false =>
        have HU := hid (upto_miss k p hpk)
        have HA := hid (HP.out wr.drew k HK.out.drew hlt)
        have HJD := hid hJd
        rw [hpk] at HA
        clear hpk hJd
        gi_wp2
        (first | (gi_region_with (first | (refine ⟨trivial, (fun h => by cases h), ?_⟩; refine (callsIn_wide.2 HA.out).mono ?_; rintro e w' ⟨rfl, rfl⟩) | (refine ⟨fun _ _ => trivial, ?_⟩))) | fail)
        all_goals gi_wp2
        all_goals exact ⟨⟨k + 1, hlt, by go_num, by rw [HU.out]; exact HJD.out, HKD.out⟩, by simp [intOf]; omega⟩
      | true =>
        have HU := hid (upto_hit k p hpk)
        have HL := hid (upto_le (k + 1) m.n p hlt)
        have HA := hid (HP.out wr.drew k HK.out.drew hlt)
        rw [hpk] at HA
        obtain ⟨fn, tmps, assign, body, hy, hR⟩ := HY.out _ (nd k) wr.drew hJd (by have := List.length_filter_le p (List.range k); rw [List.length_range] at this; rw [List.length_map]; omega)
        rw [nd_val (by omega)] at hy
        have HR := hid (hR.mono (R' := fun e W' => ∃ bo : Bool, e = .returned (.bool bo) ∧ ((bo = true ∧ J (((List.range k).filter p).map nd ++ [nd k]) W' ∧ Keeps (Apart n0 lo hi) wr.drew W') ∨ (bo = false ∧ Jx (((List.range k).filter p).map nd ++ [nd k]) W'))) (fun e W' h => by
          rcases h with ⟨rfl, h1, h2⟩ | ⟨rfl, h1⟩
          · exact ⟨true, rfl, .inl ⟨rfl, h1, h2⟩⟩
          · exact ⟨false, rfl, .inr ⟨rfl, h1⟩⟩))
        clear hpk hJd hR
        gi_wp2
        (first | (gi_region_with (first | (refine ⟨trivial, (fun h => by cases h), ?_⟩; refine (callsIn_wide.2 HA.out).mono ?_; rintro e w' ⟨rfl, rfl⟩) | (refine ⟨fun _ _ => trivial, (fun h => by cases h), ?_⟩; refine HR.out.mono ?_; rintro e W3 ⟨bo, rfl, hb⟩; have HB := hid hb; clear hb) | (refine ⟨(fun h => by cases h), ?_⟩; refine HR.out.mono ?_; rintro e W3 ⟨bo, rfl, hb⟩; have HB := hid hb; clear hb) | (refine HR.out.mono ?_; rintro e W3 ⟨bo, rfl, hb⟩; have HB := hid hb; clear hb))) | fail)
        all_goals
          rcases HB.out with ⟨rfl, hJ3, hk3⟩ | ⟨rfl, hx3⟩
          · have HJ3 := hid hJ3
            have HK3 := hid hk3
            clear hJ3 hk3
            gi_wp2
            exact ⟨⟨k + 1, hlt, by go_num, by rw [HU.out, List.map_append]; exact HJ3.out, HKD.out.trans HK3.out⟩, by simp [intOf]; omega⟩
          · have HX3 := hid hx3
            clear hx3
            gi_wp2
            refine bodyPost_ret (results_none rfl _ _ _) rfl ?_
            exact ⟨⟨_, rfl⟩, .inr ⟨_, by have := HL.out.map nd; rw [HU.out, List.map_append] at this; exact this, HX3.out⟩⟩
    · have e : k = m.n := by omega
      subst e
      gi_wp2
      go_end0
      exact ⟨⟨_, rfl⟩, .inl ⟨_, rfl, HJ.out⟩⟩

end Go.Proofs.Ytdongghjchnpbaa
