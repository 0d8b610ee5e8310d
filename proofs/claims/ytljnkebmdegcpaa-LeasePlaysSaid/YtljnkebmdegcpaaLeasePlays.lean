/-
  Every script of lives that are heard of and of ticks has the documents answers, node by node; of a nil book too.
  (The frame behind the walk is the guide's shell, at these parameters.)
-/
import Derived.Test.YtljnkebmdegcpaaRows
import Derived.WalkKit
import Derived.Test.YtljnkebmdegcpaaLeaQ
import Derived.Test.YtljnkebmdegcpaaOps18
import Derived.ProofKit
import Derived.Deep.Cut
import Derived.Deep.CutRange
import Derived.Deep.CutBlock
import Derived.Deep.Grids
import Derived.OpenShut
import Derived.ShutString
import Derived.ChangeOld
import Derived.Below
namespace Go.Proofs.Ytljnkebmdegcpaa.leasePlays
open Go.ChangeShapes Go.WideShapes Go.ChangeAt Go.RowKit
open Go.ChangeMaps (open_string shut_string)
set_option linter.unusedVariables false

theorem own : ownKnob Try.prog.godebug = none := by kernel_rfl
theorem laidOut : laidOutB Try.prog = true := by kernel_rfl

set_option linter.unusedSimpArgs false
theorem gcels_at : ∀ (l : List (Nat × Nat)) (k : Nat) (x : Nat × Nat) (c : Nat) (v : Value), l[k]? = some x → (gcel x)[c]? = some v → (gcels l)[k * 2 + c]? = some v
  | x :: l, 0, y, c, v, h, hv => by
    simp at h; subst h
    have hc : c < 2 := (List.getElem?_eq_some_iff.1 hv).1
    show (gcel x ++ gcels l)[0 * 2 + c]? = _
    rw [List.getElem?_append_left (by show 0 * 2 + c < 2; omega)]
    simpa using hv
  | x :: l, k + 1, y, c, v, h, hv => by
    have e : (k + 1) * 2 + c = 2 + (k * 2 + c) := by omega
    show (gcel x ++ gcels l)[(k + 1) * 2 + c]? = _
    rw [e, List.getElem?_append_right (by show 2 ≤ _; omega)]
    show (gcels l)[2 + (k * 2 + c) - 2]? = _
    rw [Nat.add_sub_cancel_left]
    exact gcels_at l k y c v (by simpa using h) hv
theorem owns_g {w w' : World} {lo n : Nat} {e : TypeId} {v : Value} {G : List (Nat × Nat)} (h : w.ownsRow lo e 2 v n (gcels G)) (hb : Below w.heap.size w w') {k x y : Nat} (hk : G[k]? = some (x, y)) :
    ∃ q c, v = .slice (some ⟨q, 0, none⟩) n c ∧ w'.cell? ⟨q, k * 2, none⟩ = some (.int .i64 (x : Int)) ∧ w'.cell? ⟨q, k * 2 + 1, none⟩ = some (.int .u32 (y : Int)) := by
  have hl := h.1
  have hl2 := gcels_len G
  have hkn := (List.getElem?_eq_some_iff.1 hk).1
  rcases owns_shape h with ⟨_, h0⟩ | ⟨q, c, rfl, _⟩
  · omega
  · have h' := owns_below h hb
    exact ⟨q, c, rfl, (h'.cellAt (k * 2) (by omega)).trans (gcels_at G k _ 0 _ hk rfl), (h'.cellAt (k * 2 + 1) (by omega)).trans (gcels_at G k _ 1 _ hk rfl)⟩
theorem owns_i {w w' : World} {lo n : Nat} {e : TypeId} {v : Value} {A : List Nat} (h : w.ownsRow lo e 1 v n (A.map ivN)) (hb : Below w.heap.size w w') {k x : Nat} (hk : A[k]? = some x) :
    ∃ q c, v = .slice (some ⟨q, 0, none⟩) n c ∧ w'.cell? ⟨q, k, none⟩ = some (.int .i64 (x : Int)) := by
  have hl := h.1
  rw [List.length_map] at hl
  have hkn := (List.getElem?_eq_some_iff.1 hk).1
  rcases owns_shape h with ⟨_, h0⟩ | ⟨q, c, rfl, _⟩
  · omega
  · have h' := owns_below h hb
    exact ⟨q, c, rfl, (h'.cellAt k (by omega)).trans (by rw [List.getElem?_map, hk]; rfl)⟩
theorem nd_of {w w' : World} {lo n : Nat} {e : TypeId} {v : Value} {l : List Nd} (h : w.ownsRow lo e 4 v n (ncels l)) (hb : Below w.heap.size w w') {k : Nat} (hk : k < l.length) :
    ∃ q c, v = .slice (some ⟨q, 0, none⟩) n c ∧ q < w.heap.size ∧ w'.cell? ⟨q, k * 4, none⟩ = some (.int .u8 ((nd l k).1 : Int)) ∧ w'.cell? ⟨q, k * 4 + 1, none⟩ = some (.int .u32 ((nd l k).2.1 : Int)) ∧
    w'.cell? ⟨q, k * 4 + 2, none⟩ = some (.int .u32 ((nd l k).2.2.1 : Int)) ∧ w'.cell? ⟨q, k * 4 + 3, none⟩ = some (.int .u32 ((nd l k).2.2.2 : Int)) := by
  have hl := h.1
  have hl2 := ncels_len l
  rcases owns_shape h with ⟨_, h0⟩ | ⟨q, c, rfl, h1, h2, _⟩
  · omega
  · exact ⟨q, c, rfl, h2, owns_nd (owns_below h hb) hk⟩
theorem ndI_in (l : List Nd) (k : Nat) (h : k < l.length) : ndI l (k : Int) = nd l k := by unfold ndI; rw [if_neg (by omega)]; rfl
theorem ndI_out (l : List Nd) (i : Int) (h : i < 0 ∨ (l.length : Int) ≤ i) : ndI l i = (0, 0, 0, 0) := by unfold ndI; rw [if_pos h]
theorem quiet_first {P : Program} {f : FuncId} {args : Array Value} {w : World} {n : Nat} {v : Value} (h : Calls P f args (w.drewN n) fun e w' => e = .returned v ∧ w.drewN n = w') :
    Calls P f args (w.drewN n) fun e w' => e = .returned v ∧ ∃ m, w' = w.drewN m :=
  h.mono fun _ _ h => ⟨h.1, n, h.2.symm⟩
theorem below_dn {B : Nat} {w w' : World} (h : Below B w w') (n : Nat) : Below B w (w'.drewN n) := ⟨h.os, h.tape, h.output, h.size, h.block⟩
set_option maxRecDepth 100000 in
set_option maxHeartbeats 8000000 in
theorem walk (a0 : Int) (a1 : Option Addr) (len1 cap1 : Nat) (w : World) (w0 : (Lit.int .i64 a0).wf = true) (w1 : IsOps18 w a1 len1 cap1) :
    Calls Try.prog 3 #[.int .i64 a0, .slice a1 len1 cap1] w fun e w' => e = .returned (.bool true) ∧ Below w.heap.size w w' := by
  have hnb := bounds_i64 w0
  clear w0
  obtain ⟨hlc, hcm⟩ := w1.bounds
  have HOPS := hid w1
  clear w1
  go_enter Try.func3, Try.ntmps3
  go_wp2_with fail
  refine (awake18_any w).mono ?_
  rintro e x1 ⟨rfl, hb1⟩
  have HB1 := hid hb1
  clear hb1
  have hq : ∀ (w : World) (a : Option Addr) (n c : Nat), (binOp .eql 28 (.slice a n c) (.slice none 0 0)).run Try.prog w = .ok (.bool a.isNone) w := fun w a n c => Lib.run_eql_slice_nil w _ _ a n c 0 0 Try.underlying28
  by_cases hnn : a0 < 1 ∨ 16 < a0
  · go_wp2_with fail
    refine (new_no x1 a0 hnn).mono ?_
    rintro e x2 ⟨rfl, rfl⟩
    go_wp2_with fail
    refine (refnew_no x1 a0 hnn).mono ?_
    rintro e x2 ⟨rfl, rfl⟩
    go_wp2_with fail
    clear hq
    have HBS := hid (show ∀ i, BS none i → w.heap.size ≤ i from (fun i hi => hi.elim))
    go_loopw [7, 49] (fun vl vi wr => ∃ (k : Nat) (l : List Nd), k ≤ len1 ∧ k ≤ 100 ∧ vi = .int .i64 k ∧ BkO wr none l ∧ wr.ownsRow w.heap.size 49 4 vl l.length (ncels l) ∧ Below w.heap.size w wr) (fun _ i _ => len1 - (intOf i).toNat)
    case atStart => exact ⟨0, [], Nat.zero_le _, Nat.zero_le _, rfl, rfl, World.ownsRow_nil _ _ _ _, HB1.out⟩
    case round =>
      obtain ⟨k, l, hk, hk100, rfl, hbk, hv, hbw⟩ := hrel
      have HKO := hid hbk
      have HV := hid hv
      have HBW := hid hbw
      have HOK := hid hbk.ok
      obtain ⟨al, cl, rfl, -, -⟩ := owns_slice hv
      clear hbk hv hbw
      by_cases hlt : k < len1
      · have hki : (k : Int) < (len1 : Int) := by omega
        obtain ⟨sb, off, d, i, now, life, rfl, hd, hi, hnow, hlife, hsb, c0, c1, c2, c3⟩ := HOPS.out.at HBW.out hlt
        obtain ⟨wm, hwm⟩ : ∃ wm, wm = wr.alloc (.cells #[.int .u8 (d : Int), .int .i64 i, .int .u32 (now : Int), .int .u32 (life : Int)] 33) := ⟨_, rfl⟩
        have hbm : Below wr.heap.size wr wm := by rw [hwm]; exact (Below.refl _ _).alloc (Nat.le_refl _) _
        have hxm : wm.heap[wr.heap.size]? = some (.cells #[.int .u8 (d : Int), .int .i64 i, .int .u32 (now : Int), .int .u32 (life : Int)] 33 (0, 0)) := by rw [hwm]; exact heap_alloc_new wr _
        by_cases h100 : k < 100
        · have hk6 : decide ((k : Int) ≥ 100) = false := decide_eq_false (by omega)
          have HKM := hid (HKO.out.below hbm)
          have HVM := hid (owns_below HV.out hbm)
          have HBM := hid (HBW.out.trans (hbm.mono HBW.out.size))
          have HXM := hid hxm
          have hlm := (Array.getElem?_eq_some_iff.1 hxm).1
          have HWK := hid hk100
          obtain ⟨p, hp⟩ : ∃ p, p = wr.heap.size := ⟨_, rfl⟩
          rw [← hp] at HXM hlm
          have z0 : wm.cell? ⟨p, 0, none⟩ = some (.int .u8 (d : Int)) := (cell_of_row _ _ _ _ _ _ HXM.out).trans rfl
          have z1 : wm.cell? ⟨p, 1, none⟩ = some (.int .i64 i) := (cell_of_row _ _ _ _ _ _ HXM.out).trans rfl
          have z2 : wm.cell? ⟨p, 2, none⟩ = some (.int .u32 (now : Int)) := (cell_of_row _ _ _ _ _ _ HXM.out).trans rfl
          have z3 : wm.cell? ⟨p, 3, none⟩ = some (.int .u32 (life : Int)) := (cell_of_row _ _ _ _ _ _ HXM.out).trans rfl
          go_upto_region 11 with fail
          rw [← hwm]
          simp only [← hp]
          clear hwm hp hbm hxm c0 c1 c2 c3 hk100
          by_cases hd2 : d < 2
          · have hd1 : decide ((d : Int) < 2) = true := decide_eq_true (by omega)
            go_wp2_with fail
            refine (refhear_any wm w.heap.size _ l i now life HVM.out HOK.out.1 HOK.out.2 hnow hlife HBM.out.size).mono ?_
            rintro e w5 ⟨v5, rfl, hv5, hb5⟩
            obtain ⟨a5, c5, rfl, -, -⟩ := owns_slice hv5
            have HV5 := hid hv5
            have HK5 := hid (HKM.out.below hb5)
            have HB5 := hid (HBM.out.trans (hb5.mono HBM.out.size))
            have hx5 := (hb5.block p hlm).trans HXM.out
            have y1 : w5.cell? ⟨p, 1, none⟩ = some (.int .i64 i) := (cell_of_row _ _ _ _ _ _ hx5).trans rfl
            have y2 : w5.cell? ⟨p, 2, none⟩ = some (.int .u32 (now : Int)) := (cell_of_row _ _ _ _ _ _ hx5).trans rfl
            have y3 : w5.cell? ⟨p, 3, none⟩ = some (.int .u32 (life : Int)) := (cell_of_row _ _ _ _ _ _ hx5).trans rfl
            clear hv5 hb5 hx5 z0 z1 z2 z3
            go_wp2_with fail
            refine (hearO w5 none l i now life HK5.out hnow hlife).mono ?_
            rintro e w6 ⟨rfl, hk6', hkk6⟩
            have HKX := hid hk6'
            have HVX := hid (owns_bs HV5.out HK5.out hkk6 (by decide))
            have HBX := hid (HB5.out.trans (hkk6.below HB5.out.size HBS.out))
            clear hk6' hkk6 y1 y2 y3
            generalize (hear l i now life).2.1 = f1 at *
            generalize (hear l i now life).2.2 = f2 at *
            generalize (hear l i now life).1 = l2 at *
            go_wp2_with fail
            go_loopw [23] (fun vi wz => ∃ q : Nat, q ≤ 18 ∧ vi = .int .i64 ((q : Int) - 1) ∧ Below w6.heap.size w6 wz) (fun i _ => 18 - (intOf i + 1).toNat)
            case atStart => exact ⟨0, Nat.zero_le _, rfl, Below.refl _ _⟩
            case round =>
              obtain ⟨q, hq, rfl, hbz⟩ := hrel
              obtain ⟨wz, hwz⟩ : ∃ wz, wz = wr := ⟨_, rfl⟩
              subst hwz
              have HBZ := hid hbz
              clear hbz
              obtain ⟨kk, hkk⟩ : ∃ kk : Int, kk = (q : Int) - 1 := ⟨_, rfl⟩
              rw [← hkk]
              have HKK := hid hkk
              have hkb : -1 ≤ kk ∧ kk ≤ 17 := by omega
              clear hkk
              by_cases h16 : kk ≤ 16
              · have HOAT := hid (fun W (hW : Below wz.heap.size wz W) => HKX.out.below (HBZ.out.trans (hW.mono HBZ.out.size)))
                by_cases hin : 0 ≤ kk ∧ kk < (l2.length : Int)
                · obtain ⟨k9, hk9⟩ : ∃ k9 : Nat, kk = (k9 : Int) := ⟨kk.toNat, by omega⟩
                  subst hk9
                  have hkl : k9 < l2.length := by omega
                  obtain ⟨qv, cv, ev, hqv, c0, c1, c2, c3⟩ := nd_of HVX.out (HBZ.out.trans ((Below.refl _ wz).alloc HBZ.out.size (.cells #[.int .u8 0, .int .u32 0, .int .u32 0, .int .u32 0] 49))) hkl
                  have HND := hid (ndI_in l2 k9 hkl)
                  obtain ⟨x, hx⟩ : ∃ x, x = nd l2 k9 := ⟨_, rfl⟩
                  rw [← hx] at c0 c1 c2 c3 HND
                  obtain ⟨x0, x1', x2', x3'⟩ := x
                  dsimp only at c0 c1 c2 c3
                  obtain ⟨wq, hwq⟩ : ∃ wq, wq = wz.alloc (.cells #[.int .u8 (x0 : Int), .int .u32 (x1' : Int), .int .u32 (x2' : Int), .int .u32 (x3' : Int)] 49) := ⟨_, rfl⟩
                  have hbq : Below wz.heap.size wz wq := by rw [hwq]; exact (Below.refl _ _).alloc (Nat.le_refl _) _
                  have hxq : wq.heap[wz.heap.size]? = some (.cells #[.int .u8 (x0 : Int), .int .u32 (x1' : Int), .int .u32 (x2' : Int), .int .u32 (x3' : Int)] 49 (0, 0)) := by rw [hwq]; exact heap_alloc_new wz _
                  have HKQ := HOAT.out wq hbq
                  have HST := hid (fun m => stateO (wq.drewN m) none l2 (k9 : Int) (HKQ.drewN m))
                  have HLI := hid (fun m => lifeO (wq.drewN m) none l2 (k9 : Int) (HKQ.drewN m))
                  have HUN := hid (fun m => untilO (wq.drewN m) none l2 (k9 : Int) (HKQ.drewN m))
                  rw [HND.out] at HST HLI HUN
                  dsimp only at HST HLI HUN
                  have z0 : wq.cell? ⟨wz.heap.size, 0, none⟩ = some (.int .u8 (x0 : Int)) := (cell_of_row _ _ _ _ _ _ hxq).trans rfl
                  have z1 : wq.cell? ⟨wz.heap.size, 1, none⟩ = some (.int .u32 (x1' : Int)) := (cell_of_row _ _ _ _ _ _ hxq).trans rfl
                  have z3 : wq.cell? ⟨wz.heap.size, 3, none⟩ = some (.int .u32 (x3' : Int)) := (cell_of_row _ _ _ _ _ _ hxq).trans rfl
                  have HBQ := hid (HBZ.out.trans (hbq.mono HBZ.out.size))
                  have hki1 : (k9 : Int) < (l2.length : Int) := by omega
                  have hki2 : (0 : Int) ≤ (k9 : Int) := by omega
                  have h16n : k9 ≤ 16 := by omega
                  clear hx hbq hxq HKQ
                  simp only [Value.slice.injEq] at ev
                  obtain ⟨rfl, -, rfl⟩ := ev
                  go_upto_region 40 with fail
                  rw [← hwq]
                  clear hwq c0 c1 c2 c3
                  go_quiet (first
                    | (go_at_call 14; exact quiet_first (HST.out _))
                    | (go_at_call 15; exact quiet_first (HLI.out _))
                    | (go_at_call 16; exact quiet_first (HUN.out _))
                    | fail)
                  go_wp2_with fail
                  go_roundw
                  case rel => exact ⟨q + 1, by have := HKK.out; omega, by rw [show ((q + 1 : Nat) : Int) - 1 = (k9 : Int) + 1 by have := HKK.out; omega], below_dn HBQ.out nq⟩
                  case measure => simp [intOf]; omega
                · have HND := hid (ndI_out l2 kk (by omega))
                  obtain ⟨wq, hwq⟩ : ∃ wq, wq = wz.alloc (.cells #[.int .u8 0, .int .u32 0, .int .u32 0, .int .u32 0] 49) := ⟨_, rfl⟩
                  have hbq : Below wz.heap.size wz wq := by rw [hwq]; exact (Below.refl _ _).alloc (Nat.le_refl _) _
                  have hxq : wq.heap[wz.heap.size]? = some (.cells #[.int .u8 0, .int .u32 0, .int .u32 0, .int .u32 0] 49 (0, 0)) := by rw [hwq]; exact heap_alloc_new wz _
                  have HKQ := HOAT.out wq hbq
                  have HST := hid (fun m => stateO (wq.drewN m) none l2 kk (HKQ.drewN m))
                  have HLI := hid (fun m => lifeO (wq.drewN m) none l2 kk (HKQ.drewN m))
                  have HUN := hid (fun m => untilO (wq.drewN m) none l2 kk (HKQ.drewN m))
                  rw [HND.out] at HST HLI HUN
                  dsimp only at HST HLI HUN
                  have z0 : wq.cell? ⟨wz.heap.size, 0, none⟩ = some (.int .u8 0) := (cell_of_row _ _ _ _ _ _ hxq).trans rfl
                  have z1 : wq.cell? ⟨wz.heap.size, 1, none⟩ = some (.int .u32 0) := (cell_of_row _ _ _ _ _ _ hxq).trans rfl
                  have z3 : wq.cell? ⟨wz.heap.size, 3, none⟩ = some (.int .u32 0) := (cell_of_row _ _ _ _ _ _ hxq).trans rfl
                  have HBQ := hid (HBZ.out.trans (hbq.mono HBZ.out.size))
                  clear hbq hxq HKQ
                  by_cases h0 : kk < 0
                  · have e0 : decide (kk ≥ 0) = false := decide_eq_false (by omega)
                    have e1 : decide ((0 : Int) ≤ kk) = false := decide_eq_false (by omega)
                    have e2 : ¬ (0 : Int) ≤ kk := by omega
                    clear hin h0
                    go_upto_region 40 with fail
                    rw [← hwq]
                    clear hwq
                    go_quiet (first
                      | (go_at_call 14; exact quiet_first (HST.out _))
                      | (go_at_call 15; exact quiet_first (HLI.out _))
                      | (go_at_call 16; exact quiet_first (HUN.out _))
                      | fail)
                    go_wp2_with fail
                    go_roundw
                    case rel => exact ⟨q + 1, by have := HKK.out; omega, by rw [show ((q + 1 : Nat) : Int) - 1 = kk + 1 by have := HKK.out; omega], below_dn HBQ.out nq⟩
                    case measure => simp [intOf]; have := HKK.out; omega
                  · have e0 : decide (kk ≥ 0) = true := decide_eq_true (by omega)
                    have e1 : decide ((0 : Int) ≤ kk) = true := decide_eq_true (by omega)
                    have e2 : decide (kk < (l2.length : Int)) = false := decide_eq_false (by omega)
                    have e3 : ¬ kk < (l2.length : Int) := by omega
                    have e4 : (0 : Int) ≤ kk := by omega
                    clear hin h0
                    go_upto_region 40 with fail
                    rw [← hwq]
                    clear hwq
                    go_quiet (first
                      | (go_at_call 14; exact quiet_first (HST.out _))
                      | (go_at_call 15; exact quiet_first (HLI.out _))
                      | (go_at_call 16; exact quiet_first (HUN.out _))
                      | fail)
                    go_wp2_with fail
                    go_roundw
                    case rel => exact ⟨q + 1, by have := HKK.out; omega, by rw [show ((q + 1 : Nat) : Int) - 1 = kk + 1 by have := HKK.out; omega], below_dn HBQ.out nq⟩
                    case measure => simp [intOf]; have := HKK.out; omega
              · have HKY := hid (HKX.out.below HBZ.out)
                have HVY := hid (owns_below HVX.out HBZ.out)
                have HBY := hid (HBX.out.trans (HBZ.out.mono HBX.out.size))
                go_wp2_with fail
                go_roundw
                case rel => exact ⟨k + 1, l2, hlt, by have := HWK.out; omega, by go_num, HKY.out, HVY.out, HBY.out⟩
                case measure => simp [intOf]; omega
          · have hd1 : decide ((d : Int) < 2) = false := decide_eq_false (by omega)
            go_wp2_with fail
            refine (reftick_any wm w.heap.size _ l now HVM.out HOK.out.2 HOK.out.1 hnow).mono ?_
            rintro e w5 ⟨vo, vg, va, rfl, hr⟩
            have HK5 := hid (HKM.out.below (hr.b))
            have HB5 := hid (HBM.out.trans (hr.b.mono HBM.out.size))
            have HRO := hid (owns_base hr.ho HBM.out.size)
            have HRG := hid hr.hg
            have HRA := hid hr.ha
            obtain ⟨a5, c5, rfl, -, -⟩ := owns_slice hr.ho
            obtain ⟨ag, cg, rfl, -, -⟩ := owns_slice hr.hg
            obtain ⟨aa, ca, rfl, -, -⟩ := owns_slice hr.ha
            have hx5 := (hr.b.block p hlm).trans HXM.out
            have y2 : w5.cell? ⟨p, 2, none⟩ = some (.int .u32 (now : Int)) := (cell_of_row _ _ _ _ _ _ hx5).trans rfl
            clear hr hx5 z0 z1 z2 z3
            go_wp2_with fail
            refine (tickO w5 none l now HK5.out hnow).mono ?_
            rintro e w6 ⟨vh, vn, rfl, hkt, hgt, hat, hkk6⟩
            have HKX := hid hkt
            have HVX := hid (owns_bs HRO.out HK5.out hkk6 (by decide))
            have HRGX := hid (owns_bs HRG.out HK5.out hkk6 (by decide))
            have HRAX := hid (owns_bs HRA.out HK5.out hkk6 (by decide))
            have HHG := hid hgt
            have HHA := hid hat
            obtain ⟨ah, ch, rfl, -, -⟩ := owns_slice hgt
            obtain ⟨an, cn, rfl, -, -⟩ := owns_slice hat
            have HBX := hid (HB5.out.trans (hkk6.below HB5.out.size HBS.out))
            have hgl := grants_len now l l.length
            have hal := aways_len now l l.length
            have hl16 := HOK.out.1
            clear hkt hgt hat hkk6 y2
            generalize grants now l l.length = G at *
            generalize aways now l l.length = A at *
            generalize ticks now l = l2 at *
            go_wp2_with fail
            go_loopw [121] (fun vi wz => ∃ q : Nat, q ≤ G.length ∧ vi = .int .i64 q ∧ Below w6.heap.size w6 wz) (fun i _ => G.length - (intOf i).toNat)
            case atStart => exact ⟨0, Nat.zero_le _, rfl, Below.refl _ _⟩
            case round =>
              obtain ⟨q, hq, rfl, hbz⟩ := hrel
              obtain ⟨wz, hwz⟩ : ∃ wz, wz = wr := ⟨_, rfl⟩
              subst hwz
              have HBZ := hid hbz
              clear hbz
              by_cases hql : q < G.length
              · have hqi : (q : Int) < (G.length : Int) := by omega
                obtain ⟨⟨gx, gy⟩, hgq⟩ : ∃ x, G[q]? = some x := ⟨_, List.getElem?_eq_getElem hql⟩
                obtain ⟨q1, k1, ev1, g10, g11⟩ := owns_g HHG.out HBZ.out hgq
                obtain ⟨q2, k2, ev2, g20, g21⟩ := owns_g HRGX.out HBZ.out hgq
                simp only [Value.slice.injEq] at ev1 ev2
                obtain ⟨rfl, -, rfl⟩ := ev1
                obtain ⟨rfl, -, rfl⟩ := ev2
                have HGQ := hid hgq
                clear hgq
                go_upto_region 25 with fail
                go_quiet (fail)
                go_wp2_with fail
                go_roundw
                case rel => exact ⟨q + 1, hql, by go_num, below_dn HBZ.out nq⟩
                case measure => simp [intOf]; omega
              · have hqi : ¬ (q : Int) < (G.length : Int) := by omega
                have HKXz := hid (HKX.out.below HBZ.out)
                have HVXz := hid (owns_below HVX.out HBZ.out)
                have HRAXz := hid (owns_below HRAX.out HBZ.out)
                have HHAz := hid (owns_below HHA.out HBZ.out)
                have HBXz := hid (HBX.out.trans (HBZ.out.mono HBX.out.size))
                clear HHG HRGX HKX HVX HRAX HHA HBX
                go_wp2_with fail
                go_loopw [136] (fun vi wy => ∃ q : Nat, q ≤ A.length ∧ vi = .int .i64 q ∧ Below wz.heap.size wz wy) (fun i _ => A.length - (intOf i).toNat)
                case atStart => exact ⟨0, Nat.zero_le _, rfl, Below.refl _ _⟩
                case round =>
                  obtain ⟨q3, hq3, rfl, hby⟩ := hrel
                  obtain ⟨wy, hwy⟩ : ∃ wy, wy = wr := ⟨_, rfl⟩
                  subst hwy
                  have HBY0 := hid hby
                  clear hby
                  by_cases hql3 : q3 < A.length
                  · have hqi3 : (q3 : Int) < (A.length : Int) := by omega
                    obtain ⟨ax, haq⟩ : ∃ x, A[q3]? = some x := ⟨_, List.getElem?_eq_getElem hql3⟩
                    obtain ⟨q1, k1, ev1, g10⟩ := owns_i HHAz.out HBY0.out haq
                    obtain ⟨q2, k2, ev2, g20⟩ := owns_i HRAXz.out HBY0.out haq
                    simp only [Value.slice.injEq] at ev1 ev2
                    obtain ⟨rfl, -, rfl⟩ := ev1
                    obtain ⟨rfl, -, rfl⟩ := ev2
                    have HAQ := hid haq
                    clear haq
                    go_upto_region 31 with fail
                    go_quiet (fail)
                    go_wp2_with fail
                    go_roundw
                    case rel => exact ⟨q3 + 1, hql3, by go_num, below_dn HBY0.out nq⟩
                    case measure => simp [intOf]; omega
                  · have hqi3 : ¬ (q3 : Int) < (A.length : Int) := by omega
                    have HKX := hid (HKXz.out.below HBY0.out)
                    have HVX := hid (owns_below HVXz.out HBY0.out)
                    have HBX := hid (HBXz.out.trans (HBY0.out.mono HBXz.out.size))
                    clear HKXz HVXz HRAXz HHAz HBXz
                    go_wp2_with fail
                    go_loopw [23] (fun vi wz => ∃ q : Nat, q ≤ 18 ∧ vi = .int .i64 ((q : Int) - 1) ∧ Below wy.heap.size wy wz) (fun i _ => 18 - (intOf i + 1).toNat)
                    case atStart => exact ⟨0, Nat.zero_le _, rfl, Below.refl _ _⟩
                    case round =>
                      obtain ⟨q, hq, rfl, hbz⟩ := hrel
                      obtain ⟨wz, hwz⟩ : ∃ wz, wz = wr := ⟨_, rfl⟩
                      subst hwz
                      have HBZ := hid hbz
                      clear hbz
                      obtain ⟨kk, hkk⟩ : ∃ kk : Int, kk = (q : Int) - 1 := ⟨_, rfl⟩
                      rw [← hkk]
                      have HKK := hid hkk
                      have hkb : -1 ≤ kk ∧ kk ≤ 17 := by omega
                      clear hkk
                      by_cases h16 : kk ≤ 16
                      · have HOAT := hid (fun W (hW : Below wz.heap.size wz W) => HKX.out.below (HBZ.out.trans (hW.mono HBZ.out.size)))
                        by_cases hin : 0 ≤ kk ∧ kk < (l2.length : Int)
                        · obtain ⟨k9, hk9⟩ : ∃ k9 : Nat, kk = (k9 : Int) := ⟨kk.toNat, by omega⟩
                          subst hk9
                          have hkl : k9 < l2.length := by omega
                          obtain ⟨qv, cv, ev, hqv, c0, c1, c2, c3⟩ := nd_of HVX.out (HBZ.out.trans ((Below.refl _ wz).alloc HBZ.out.size (.cells #[.int .u8 0, .int .u32 0, .int .u32 0, .int .u32 0] 49))) hkl
                          have HND := hid (ndI_in l2 k9 hkl)
                          obtain ⟨x, hx⟩ : ∃ x, x = nd l2 k9 := ⟨_, rfl⟩
                          rw [← hx] at c0 c1 c2 c3 HND
                          obtain ⟨x0, x1', x2', x3'⟩ := x
                          dsimp only at c0 c1 c2 c3
                          obtain ⟨wq, hwq⟩ : ∃ wq, wq = wz.alloc (.cells #[.int .u8 (x0 : Int), .int .u32 (x1' : Int), .int .u32 (x2' : Int), .int .u32 (x3' : Int)] 49) := ⟨_, rfl⟩
                          have hbq : Below wz.heap.size wz wq := by rw [hwq]; exact (Below.refl _ _).alloc (Nat.le_refl _) _
                          have hxq : wq.heap[wz.heap.size]? = some (.cells #[.int .u8 (x0 : Int), .int .u32 (x1' : Int), .int .u32 (x2' : Int), .int .u32 (x3' : Int)] 49 (0, 0)) := by rw [hwq]; exact heap_alloc_new wz _
                          have HKQ := HOAT.out wq hbq
                          have HST := hid (fun m => stateO (wq.drewN m) none l2 (k9 : Int) (HKQ.drewN m))
                          have HLI := hid (fun m => lifeO (wq.drewN m) none l2 (k9 : Int) (HKQ.drewN m))
                          have HUN := hid (fun m => untilO (wq.drewN m) none l2 (k9 : Int) (HKQ.drewN m))
                          rw [HND.out] at HST HLI HUN
                          dsimp only at HST HLI HUN
                          have z0 : wq.cell? ⟨wz.heap.size, 0, none⟩ = some (.int .u8 (x0 : Int)) := (cell_of_row _ _ _ _ _ _ hxq).trans rfl
                          have z1 : wq.cell? ⟨wz.heap.size, 1, none⟩ = some (.int .u32 (x1' : Int)) := (cell_of_row _ _ _ _ _ _ hxq).trans rfl
                          have z3 : wq.cell? ⟨wz.heap.size, 3, none⟩ = some (.int .u32 (x3' : Int)) := (cell_of_row _ _ _ _ _ _ hxq).trans rfl
                          have HBQ := hid (HBZ.out.trans (hbq.mono HBZ.out.size))
                          have hki1 : (k9 : Int) < (l2.length : Int) := by omega
                          have hki2 : (0 : Int) ≤ (k9 : Int) := by omega
                          have h16n : k9 ≤ 16 := by omega
                          clear hx hbq hxq HKQ
                          simp only [Value.slice.injEq] at ev
                          obtain ⟨rfl, -, rfl⟩ := ev
                          go_upto_region 40 with fail
                          rw [← hwq]
                          clear hwq c0 c1 c2 c3
                          go_quiet (first
                            | (go_at_call 14; exact quiet_first (HST.out _))
                            | (go_at_call 15; exact quiet_first (HLI.out _))
                            | (go_at_call 16; exact quiet_first (HUN.out _))
                            | fail)
                          go_wp2_with fail
                          go_roundw
                          case rel => exact ⟨q + 1, by have := HKK.out; omega, by rw [show ((q + 1 : Nat) : Int) - 1 = (k9 : Int) + 1 by have := HKK.out; omega], below_dn HBQ.out nq⟩
                          case measure => simp [intOf]; omega
                        · have HND := hid (ndI_out l2 kk (by omega))
                          obtain ⟨wq, hwq⟩ : ∃ wq, wq = wz.alloc (.cells #[.int .u8 0, .int .u32 0, .int .u32 0, .int .u32 0] 49) := ⟨_, rfl⟩
                          have hbq : Below wz.heap.size wz wq := by rw [hwq]; exact (Below.refl _ _).alloc (Nat.le_refl _) _
                          have hxq : wq.heap[wz.heap.size]? = some (.cells #[.int .u8 0, .int .u32 0, .int .u32 0, .int .u32 0] 49 (0, 0)) := by rw [hwq]; exact heap_alloc_new wz _
                          have HKQ := HOAT.out wq hbq
                          have HST := hid (fun m => stateO (wq.drewN m) none l2 kk (HKQ.drewN m))
                          have HLI := hid (fun m => lifeO (wq.drewN m) none l2 kk (HKQ.drewN m))
                          have HUN := hid (fun m => untilO (wq.drewN m) none l2 kk (HKQ.drewN m))
                          rw [HND.out] at HST HLI HUN
                          dsimp only at HST HLI HUN
                          have z0 : wq.cell? ⟨wz.heap.size, 0, none⟩ = some (.int .u8 0) := (cell_of_row _ _ _ _ _ _ hxq).trans rfl
                          have z1 : wq.cell? ⟨wz.heap.size, 1, none⟩ = some (.int .u32 0) := (cell_of_row _ _ _ _ _ _ hxq).trans rfl
                          have z3 : wq.cell? ⟨wz.heap.size, 3, none⟩ = some (.int .u32 0) := (cell_of_row _ _ _ _ _ _ hxq).trans rfl
                          have HBQ := hid (HBZ.out.trans (hbq.mono HBZ.out.size))
                          clear hbq hxq HKQ
                          by_cases h0 : kk < 0
                          · have e0 : decide (kk ≥ 0) = false := decide_eq_false (by omega)
                            have e1 : decide ((0 : Int) ≤ kk) = false := decide_eq_false (by omega)
                            have e2 : ¬ (0 : Int) ≤ kk := by omega
                            clear hin h0
                            go_upto_region 40 with fail
                            rw [← hwq]
                            clear hwq
                            go_quiet (first
                              | (go_at_call 14; exact quiet_first (HST.out _))
                              | (go_at_call 15; exact quiet_first (HLI.out _))
                              | (go_at_call 16; exact quiet_first (HUN.out _))
                              | fail)
                            go_wp2_with fail
                            go_roundw
                            case rel => exact ⟨q + 1, by have := HKK.out; omega, by rw [show ((q + 1 : Nat) : Int) - 1 = kk + 1 by have := HKK.out; omega], below_dn HBQ.out nq⟩
                            case measure => simp [intOf]; have := HKK.out; omega
                          · have e0 : decide (kk ≥ 0) = true := decide_eq_true (by omega)
                            have e1 : decide ((0 : Int) ≤ kk) = true := decide_eq_true (by omega)
                            have e2 : decide (kk < (l2.length : Int)) = false := decide_eq_false (by omega)
                            have e3 : ¬ kk < (l2.length : Int) := by omega
                            have e4 : (0 : Int) ≤ kk := by omega
                            clear hin h0
                            go_upto_region 40 with fail
                            rw [← hwq]
                            clear hwq
                            go_quiet (first
                              | (go_at_call 14; exact quiet_first (HST.out _))
                              | (go_at_call 15; exact quiet_first (HLI.out _))
                              | (go_at_call 16; exact quiet_first (HUN.out _))
                              | fail)
                            go_wp2_with fail
                            go_roundw
                            case rel => exact ⟨q + 1, by have := HKK.out; omega, by rw [show ((q + 1 : Nat) : Int) - 1 = kk + 1 by have := HKK.out; omega], below_dn HBQ.out nq⟩
                            case measure => simp [intOf]; have := HKK.out; omega
                      · have HKY := hid (HKX.out.below HBZ.out)
                        have HVY := hid (owns_below HVX.out HBZ.out)
                        have HBY := hid (HBX.out.trans (HBZ.out.mono HBX.out.size))
                        go_wp2_with fail
                        go_roundw
                        case rel => exact ⟨k + 1, l2, hlt, by have := HWK.out; omega, by go_num, HKY.out, HVY.out, HBY.out⟩
                        case measure => simp [intOf]; omega
        · have hk6 : decide ((k : Int) ≥ 100) = true := decide_eq_true (by omega)
          have HBM := hid (HBW.out.trans (hbm.mono HBW.out.size))
          go_wp2_with fail
          rw [← hwm]
          go_ret
          exact ⟨rfl, HBM.out⟩
      · have hki : ¬ (k : Int) < (len1 : Int) := by omega
        go_wp2_with fail
        go_ret
        exact ⟨rfl, HBW.out⟩
  · obtain ⟨n, hn⟩ : ∃ n : Nat, a0 = (n : Int) := ⟨a0.toNat, by omega⟩
    subst hn
    have hn1 : 1 ≤ n ∧ n ≤ 16 := by omega
    go_wp2_with fail
    refine (new_yes x1 n hn1.1 hn1.2).mono ?_
    rintro e x2 ⟨rfl, hk2, hb2⟩
    obtain ⟨g, hg⟩ : ∃ g, g = x1.heap.size := ⟨_, rfl⟩
    obtain ⟨b, hb⟩ : ∃ b, b = x1.heap.size + 1 := ⟨_, rfl⟩
    rw [← hb, ← hg] at hk2
    simp only [← hb]
    have HG := hid (show w.heap.size ≤ g by rw [hg]; exact HB1.out.size)
    have HK2 := hid hk2
    have HB2 := hid (HB1.out.trans (hb2.mono HB1.out.size))
    clear hk2 hb2 hg hb
    go_wp2_with fail
    refine (refnew_yes x2 n hn1.1 hn1.2).mono ?_
    rintro e x3 ⟨rfl, hv3, hb3⟩
    have HV3 := hid hv3
    have HK3 := hid (HK2.out.below hb3)
    have HB3 := hid (HB2.out.trans (hb3.mono HB2.out.size))
    have HS2 := hid HB2.out.size
    clear hv3 hb3
    go_wp2_with fail
    clear hq
    have HBS := hid (show ∀ i, BS (some (b, g)) i → w.heap.size ≤ i from (by rintro i rfl; exact HG.out))
    go_loopw [7, 49] (fun vl vi wr => ∃ (k : Nat) (l : List Nd), k ≤ len1 ∧ k ≤ 100 ∧ vi = .int .i64 k ∧ BkO wr (some (b, g)) l ∧ wr.ownsRow w.heap.size 49 4 vl l.length (ncels l) ∧ Below w.heap.size w wr) (fun _ i _ => len1 - (intOf i).toNat)
    case atStart => exact ⟨0, zs n, Nat.zero_le _, Nat.zero_le _, rfl, HK3.out, by rw [zs_len]; exact owns_base HV3.out HS2.out, HB3.out⟩
    case round =>
      obtain ⟨k, l, hk, hk100, rfl, hbk, hv, hbw⟩ := hrel
      have HKO := hid hbk
      have HV := hid hv
      have HBW := hid hbw
      have HOK := hid hbk.ok
      obtain ⟨al, cl, rfl, -, -⟩ := owns_slice hv
      clear hbk hv hbw
      by_cases hlt : k < len1
      · have hki : (k : Int) < (len1 : Int) := by omega
        obtain ⟨sb, off, d, i, now, life, rfl, hd, hi, hnow, hlife, hsb, c0, c1, c2, c3⟩ := HOPS.out.at HBW.out hlt
        obtain ⟨wm, hwm⟩ : ∃ wm, wm = wr.alloc (.cells #[.int .u8 (d : Int), .int .i64 i, .int .u32 (now : Int), .int .u32 (life : Int)] 33) := ⟨_, rfl⟩
        have hbm : Below wr.heap.size wr wm := by rw [hwm]; exact (Below.refl _ _).alloc (Nat.le_refl _) _
        have hxm : wm.heap[wr.heap.size]? = some (.cells #[.int .u8 (d : Int), .int .i64 i, .int .u32 (now : Int), .int .u32 (life : Int)] 33 (0, 0)) := by rw [hwm]; exact heap_alloc_new wr _
        by_cases h100 : k < 100
        · have hk6 : decide ((k : Int) ≥ 100) = false := decide_eq_false (by omega)
          have HKM := hid (HKO.out.below hbm)
          have HVM := hid (owns_below HV.out hbm)
          have HBM := hid (HBW.out.trans (hbm.mono HBW.out.size))
          have HXM := hid hxm
          have hlm := (Array.getElem?_eq_some_iff.1 hxm).1
          have HWK := hid hk100
          obtain ⟨p, hp⟩ : ∃ p, p = wr.heap.size := ⟨_, rfl⟩
          rw [← hp] at HXM hlm
          have z0 : wm.cell? ⟨p, 0, none⟩ = some (.int .u8 (d : Int)) := (cell_of_row _ _ _ _ _ _ HXM.out).trans rfl
          have z1 : wm.cell? ⟨p, 1, none⟩ = some (.int .i64 i) := (cell_of_row _ _ _ _ _ _ HXM.out).trans rfl
          have z2 : wm.cell? ⟨p, 2, none⟩ = some (.int .u32 (now : Int)) := (cell_of_row _ _ _ _ _ _ HXM.out).trans rfl
          have z3 : wm.cell? ⟨p, 3, none⟩ = some (.int .u32 (life : Int)) := (cell_of_row _ _ _ _ _ _ HXM.out).trans rfl
          go_upto_region 11 with fail
          rw [← hwm]
          simp only [← hp]
          clear hwm hp hbm hxm c0 c1 c2 c3 hk100
          by_cases hd2 : d < 2
          · have hd1 : decide ((d : Int) < 2) = true := decide_eq_true (by omega)
            go_wp2_with fail
            refine (refhear_any wm w.heap.size _ l i now life HVM.out HOK.out.1 HOK.out.2 hnow hlife HBM.out.size).mono ?_
            rintro e w5 ⟨v5, rfl, hv5, hb5⟩
            obtain ⟨a5, c5, rfl, -, -⟩ := owns_slice hv5
            have HV5 := hid hv5
            have HK5 := hid (HKM.out.below hb5)
            have HB5 := hid (HBM.out.trans (hb5.mono HBM.out.size))
            have hx5 := (hb5.block p hlm).trans HXM.out
            have y1 : w5.cell? ⟨p, 1, none⟩ = some (.int .i64 i) := (cell_of_row _ _ _ _ _ _ hx5).trans rfl
            have y2 : w5.cell? ⟨p, 2, none⟩ = some (.int .u32 (now : Int)) := (cell_of_row _ _ _ _ _ _ hx5).trans rfl
            have y3 : w5.cell? ⟨p, 3, none⟩ = some (.int .u32 (life : Int)) := (cell_of_row _ _ _ _ _ _ hx5).trans rfl
            clear hv5 hb5 hx5 z0 z1 z2 z3
            go_wp2_with fail
            refine (hearO w5 (some (b, g)) l i now life HK5.out hnow hlife).mono ?_
            rintro e w6 ⟨rfl, hk6', hkk6⟩
            have HKX := hid hk6'
            have HVX := hid (owns_bs HV5.out HK5.out hkk6 (by decide))
            have HBX := hid (HB5.out.trans (hkk6.below HB5.out.size HBS.out))
            clear hk6' hkk6 y1 y2 y3
            generalize (hear l i now life).2.1 = f1 at *
            generalize (hear l i now life).2.2 = f2 at *
            generalize (hear l i now life).1 = l2 at *
            go_wp2_with fail
            go_loopw [23] (fun vi wz => ∃ q : Nat, q ≤ 18 ∧ vi = .int .i64 ((q : Int) - 1) ∧ Below w6.heap.size w6 wz) (fun i _ => 18 - (intOf i + 1).toNat)
            case atStart => exact ⟨0, Nat.zero_le _, rfl, Below.refl _ _⟩
            case round =>
              obtain ⟨q, hq, rfl, hbz⟩ := hrel
              obtain ⟨wz, hwz⟩ : ∃ wz, wz = wr := ⟨_, rfl⟩
              subst hwz
              have HBZ := hid hbz
              clear hbz
              obtain ⟨kk, hkk⟩ : ∃ kk : Int, kk = (q : Int) - 1 := ⟨_, rfl⟩
              rw [← hkk]
              have HKK := hid hkk
              have hkb : -1 ≤ kk ∧ kk ≤ 17 := by omega
              clear hkk
              by_cases h16 : kk ≤ 16
              · have HOAT := hid (fun W (hW : Below wz.heap.size wz W) => HKX.out.below (HBZ.out.trans (hW.mono HBZ.out.size)))
                by_cases hin : 0 ≤ kk ∧ kk < (l2.length : Int)
                · obtain ⟨k9, hk9⟩ : ∃ k9 : Nat, kk = (k9 : Int) := ⟨kk.toNat, by omega⟩
                  subst hk9
                  have hkl : k9 < l2.length := by omega
                  obtain ⟨qv, cv, ev, hqv, c0, c1, c2, c3⟩ := nd_of HVX.out (HBZ.out.trans ((Below.refl _ wz).alloc HBZ.out.size (.cells #[.int .u8 0, .int .u32 0, .int .u32 0, .int .u32 0] 49))) hkl
                  have HND := hid (ndI_in l2 k9 hkl)
                  obtain ⟨x, hx⟩ : ∃ x, x = nd l2 k9 := ⟨_, rfl⟩
                  rw [← hx] at c0 c1 c2 c3 HND
                  obtain ⟨x0, x1', x2', x3'⟩ := x
                  dsimp only at c0 c1 c2 c3
                  obtain ⟨wq, hwq⟩ : ∃ wq, wq = wz.alloc (.cells #[.int .u8 (x0 : Int), .int .u32 (x1' : Int), .int .u32 (x2' : Int), .int .u32 (x3' : Int)] 49) := ⟨_, rfl⟩
                  have hbq : Below wz.heap.size wz wq := by rw [hwq]; exact (Below.refl _ _).alloc (Nat.le_refl _) _
                  have hxq : wq.heap[wz.heap.size]? = some (.cells #[.int .u8 (x0 : Int), .int .u32 (x1' : Int), .int .u32 (x2' : Int), .int .u32 (x3' : Int)] 49 (0, 0)) := by rw [hwq]; exact heap_alloc_new wz _
                  have HKQ := HOAT.out wq hbq
                  have HST := hid (fun m => stateO (wq.drewN m) (some (b, g)) l2 (k9 : Int) (HKQ.drewN m))
                  have HLI := hid (fun m => lifeO (wq.drewN m) (some (b, g)) l2 (k9 : Int) (HKQ.drewN m))
                  have HUN := hid (fun m => untilO (wq.drewN m) (some (b, g)) l2 (k9 : Int) (HKQ.drewN m))
                  rw [HND.out] at HST HLI HUN
                  dsimp only at HST HLI HUN
                  have z0 : wq.cell? ⟨wz.heap.size, 0, none⟩ = some (.int .u8 (x0 : Int)) := (cell_of_row _ _ _ _ _ _ hxq).trans rfl
                  have z1 : wq.cell? ⟨wz.heap.size, 1, none⟩ = some (.int .u32 (x1' : Int)) := (cell_of_row _ _ _ _ _ _ hxq).trans rfl
                  have z3 : wq.cell? ⟨wz.heap.size, 3, none⟩ = some (.int .u32 (x3' : Int)) := (cell_of_row _ _ _ _ _ _ hxq).trans rfl
                  have HBQ := hid (HBZ.out.trans (hbq.mono HBZ.out.size))
                  have hki1 : (k9 : Int) < (l2.length : Int) := by omega
                  have hki2 : (0 : Int) ≤ (k9 : Int) := by omega
                  have h16n : k9 ≤ 16 := by omega
                  clear hx hbq hxq HKQ
                  simp only [Value.slice.injEq] at ev
                  obtain ⟨rfl, -, rfl⟩ := ev
                  go_upto_region 40 with fail
                  rw [← hwq]
                  clear hwq c0 c1 c2 c3
                  go_quiet (first
                    | (go_at_call 14; exact quiet_first (HST.out _))
                    | (go_at_call 15; exact quiet_first (HLI.out _))
                    | (go_at_call 16; exact quiet_first (HUN.out _))
                    | fail)
                  go_wp2_with fail
                  go_roundw
                  case rel => exact ⟨q + 1, by have := HKK.out; omega, by rw [show ((q + 1 : Nat) : Int) - 1 = (k9 : Int) + 1 by have := HKK.out; omega], below_dn HBQ.out nq⟩
                  case measure => simp [intOf]; omega
                · have HND := hid (ndI_out l2 kk (by omega))
                  obtain ⟨wq, hwq⟩ : ∃ wq, wq = wz.alloc (.cells #[.int .u8 0, .int .u32 0, .int .u32 0, .int .u32 0] 49) := ⟨_, rfl⟩
                  have hbq : Below wz.heap.size wz wq := by rw [hwq]; exact (Below.refl _ _).alloc (Nat.le_refl _) _
                  have hxq : wq.heap[wz.heap.size]? = some (.cells #[.int .u8 0, .int .u32 0, .int .u32 0, .int .u32 0] 49 (0, 0)) := by rw [hwq]; exact heap_alloc_new wz _
                  have HKQ := HOAT.out wq hbq
                  have HST := hid (fun m => stateO (wq.drewN m) (some (b, g)) l2 kk (HKQ.drewN m))
                  have HLI := hid (fun m => lifeO (wq.drewN m) (some (b, g)) l2 kk (HKQ.drewN m))
                  have HUN := hid (fun m => untilO (wq.drewN m) (some (b, g)) l2 kk (HKQ.drewN m))
                  rw [HND.out] at HST HLI HUN
                  dsimp only at HST HLI HUN
                  have z0 : wq.cell? ⟨wz.heap.size, 0, none⟩ = some (.int .u8 0) := (cell_of_row _ _ _ _ _ _ hxq).trans rfl
                  have z1 : wq.cell? ⟨wz.heap.size, 1, none⟩ = some (.int .u32 0) := (cell_of_row _ _ _ _ _ _ hxq).trans rfl
                  have z3 : wq.cell? ⟨wz.heap.size, 3, none⟩ = some (.int .u32 0) := (cell_of_row _ _ _ _ _ _ hxq).trans rfl
                  have HBQ := hid (HBZ.out.trans (hbq.mono HBZ.out.size))
                  clear hbq hxq HKQ
                  by_cases h0 : kk < 0
                  · have e0 : decide (kk ≥ 0) = false := decide_eq_false (by omega)
                    have e1 : decide ((0 : Int) ≤ kk) = false := decide_eq_false (by omega)
                    have e2 : ¬ (0 : Int) ≤ kk := by omega
                    clear hin h0
                    go_upto_region 40 with fail
                    rw [← hwq]
                    clear hwq
                    go_quiet (first
                      | (go_at_call 14; exact quiet_first (HST.out _))
                      | (go_at_call 15; exact quiet_first (HLI.out _))
                      | (go_at_call 16; exact quiet_first (HUN.out _))
                      | fail)
                    go_wp2_with fail
                    go_roundw
                    case rel => exact ⟨q + 1, by have := HKK.out; omega, by rw [show ((q + 1 : Nat) : Int) - 1 = kk + 1 by have := HKK.out; omega], below_dn HBQ.out nq⟩
                    case measure => simp [intOf]; have := HKK.out; omega
                  · have e0 : decide (kk ≥ 0) = true := decide_eq_true (by omega)
                    have e1 : decide ((0 : Int) ≤ kk) = true := decide_eq_true (by omega)
                    have e2 : decide (kk < (l2.length : Int)) = false := decide_eq_false (by omega)
                    have e3 : ¬ kk < (l2.length : Int) := by omega
                    have e4 : (0 : Int) ≤ kk := by omega
                    clear hin h0
                    go_upto_region 40 with fail
                    rw [← hwq]
                    clear hwq
                    go_quiet (first
                      | (go_at_call 14; exact quiet_first (HST.out _))
                      | (go_at_call 15; exact quiet_first (HLI.out _))
                      | (go_at_call 16; exact quiet_first (HUN.out _))
                      | fail)
                    go_wp2_with fail
                    go_roundw
                    case rel => exact ⟨q + 1, by have := HKK.out; omega, by rw [show ((q + 1 : Nat) : Int) - 1 = kk + 1 by have := HKK.out; omega], below_dn HBQ.out nq⟩
                    case measure => simp [intOf]; have := HKK.out; omega
              · have HKY := hid (HKX.out.below HBZ.out)
                have HVY := hid (owns_below HVX.out HBZ.out)
                have HBY := hid (HBX.out.trans (HBZ.out.mono HBX.out.size))
                go_wp2_with fail
                go_roundw
                case rel => exact ⟨k + 1, l2, hlt, by have := HWK.out; omega, by go_num, HKY.out, HVY.out, HBY.out⟩
                case measure => simp [intOf]; omega
          · have hd1 : decide ((d : Int) < 2) = false := decide_eq_false (by omega)
            go_wp2_with fail
            refine (reftick_any wm w.heap.size _ l now HVM.out HOK.out.2 HOK.out.1 hnow).mono ?_
            rintro e w5 ⟨vo, vg, va, rfl, hr⟩
            have HK5 := hid (HKM.out.below (hr.b))
            have HB5 := hid (HBM.out.trans (hr.b.mono HBM.out.size))
            have HRO := hid (owns_base hr.ho HBM.out.size)
            have HRG := hid hr.hg
            have HRA := hid hr.ha
            obtain ⟨a5, c5, rfl, -, -⟩ := owns_slice hr.ho
            obtain ⟨ag, cg, rfl, -, -⟩ := owns_slice hr.hg
            obtain ⟨aa, ca, rfl, -, -⟩ := owns_slice hr.ha
            have hx5 := (hr.b.block p hlm).trans HXM.out
            have y2 : w5.cell? ⟨p, 2, none⟩ = some (.int .u32 (now : Int)) := (cell_of_row _ _ _ _ _ _ hx5).trans rfl
            clear hr hx5 z0 z1 z2 z3
            go_wp2_with fail
            refine (tickO w5 (some (b, g)) l now HK5.out hnow).mono ?_
            rintro e w6 ⟨vh, vn, rfl, hkt, hgt, hat, hkk6⟩
            have HKX := hid hkt
            have HVX := hid (owns_bs HRO.out HK5.out hkk6 (by decide))
            have HRGX := hid (owns_bs HRG.out HK5.out hkk6 (by decide))
            have HRAX := hid (owns_bs HRA.out HK5.out hkk6 (by decide))
            have HHG := hid hgt
            have HHA := hid hat
            obtain ⟨ah, ch, rfl, -, -⟩ := owns_slice hgt
            obtain ⟨an, cn, rfl, -, -⟩ := owns_slice hat
            have HBX := hid (HB5.out.trans (hkk6.below HB5.out.size HBS.out))
            have hgl := grants_len now l l.length
            have hal := aways_len now l l.length
            have hl16 := HOK.out.1
            clear hkt hgt hat hkk6 y2
            generalize grants now l l.length = G at *
            generalize aways now l l.length = A at *
            generalize ticks now l = l2 at *
            go_wp2_with fail
            go_loopw [121] (fun vi wz => ∃ q : Nat, q ≤ G.length ∧ vi = .int .i64 q ∧ Below w6.heap.size w6 wz) (fun i _ => G.length - (intOf i).toNat)
            case atStart => exact ⟨0, Nat.zero_le _, rfl, Below.refl _ _⟩
            case round =>
              obtain ⟨q, hq, rfl, hbz⟩ := hrel
              obtain ⟨wz, hwz⟩ : ∃ wz, wz = wr := ⟨_, rfl⟩
              subst hwz
              have HBZ := hid hbz
              clear hbz
              by_cases hql : q < G.length
              · have hqi : (q : Int) < (G.length : Int) := by omega
                obtain ⟨⟨gx, gy⟩, hgq⟩ : ∃ x, G[q]? = some x := ⟨_, List.getElem?_eq_getElem hql⟩
                obtain ⟨q1, k1, ev1, g10, g11⟩ := owns_g HHG.out HBZ.out hgq
                obtain ⟨q2, k2, ev2, g20, g21⟩ := owns_g HRGX.out HBZ.out hgq
                simp only [Value.slice.injEq] at ev1 ev2
                obtain ⟨rfl, -, rfl⟩ := ev1
                obtain ⟨rfl, -, rfl⟩ := ev2
                have HGQ := hid hgq
                clear hgq
                go_upto_region 25 with fail
                go_quiet (fail)
                go_wp2_with fail
                go_roundw
                case rel => exact ⟨q + 1, hql, by go_num, below_dn HBZ.out nq⟩
                case measure => simp [intOf]; omega
              · have hqi : ¬ (q : Int) < (G.length : Int) := by omega
                have HKXz := hid (HKX.out.below HBZ.out)
                have HVXz := hid (owns_below HVX.out HBZ.out)
                have HRAXz := hid (owns_below HRAX.out HBZ.out)
                have HHAz := hid (owns_below HHA.out HBZ.out)
                have HBXz := hid (HBX.out.trans (HBZ.out.mono HBX.out.size))
                clear HHG HRGX HKX HVX HRAX HHA HBX
                go_wp2_with fail
                go_loopw [136] (fun vi wy => ∃ q : Nat, q ≤ A.length ∧ vi = .int .i64 q ∧ Below wz.heap.size wz wy) (fun i _ => A.length - (intOf i).toNat)
                case atStart => exact ⟨0, Nat.zero_le _, rfl, Below.refl _ _⟩
                case round =>
                  obtain ⟨q3, hq3, rfl, hby⟩ := hrel
                  obtain ⟨wy, hwy⟩ : ∃ wy, wy = wr := ⟨_, rfl⟩
                  subst hwy
                  have HBY0 := hid hby
                  clear hby
                  by_cases hql3 : q3 < A.length
                  · have hqi3 : (q3 : Int) < (A.length : Int) := by omega
                    obtain ⟨ax, haq⟩ : ∃ x, A[q3]? = some x := ⟨_, List.getElem?_eq_getElem hql3⟩
                    obtain ⟨q1, k1, ev1, g10⟩ := owns_i HHAz.out HBY0.out haq
                    obtain ⟨q2, k2, ev2, g20⟩ := owns_i HRAXz.out HBY0.out haq
                    simp only [Value.slice.injEq] at ev1 ev2
                    obtain ⟨rfl, -, rfl⟩ := ev1
                    obtain ⟨rfl, -, rfl⟩ := ev2
                    have HAQ := hid haq
                    clear haq
                    go_upto_region 31 with fail
                    go_quiet (fail)
                    go_wp2_with fail
                    go_roundw
                    case rel => exact ⟨q3 + 1, hql3, by go_num, below_dn HBY0.out nq⟩
                    case measure => simp [intOf]; omega
                  · have hqi3 : ¬ (q3 : Int) < (A.length : Int) := by omega
                    have HKX := hid (HKXz.out.below HBY0.out)
                    have HVX := hid (owns_below HVXz.out HBY0.out)
                    have HBX := hid (HBXz.out.trans (HBY0.out.mono HBXz.out.size))
                    clear HKXz HVXz HRAXz HHAz HBXz
                    go_wp2_with fail
                    go_loopw [23] (fun vi wz => ∃ q : Nat, q ≤ 18 ∧ vi = .int .i64 ((q : Int) - 1) ∧ Below wy.heap.size wy wz) (fun i _ => 18 - (intOf i + 1).toNat)
                    case atStart => exact ⟨0, Nat.zero_le _, rfl, Below.refl _ _⟩
                    case round =>
                      obtain ⟨q, hq, rfl, hbz⟩ := hrel
                      obtain ⟨wz, hwz⟩ : ∃ wz, wz = wr := ⟨_, rfl⟩
                      subst hwz
                      have HBZ := hid hbz
                      clear hbz
                      obtain ⟨kk, hkk⟩ : ∃ kk : Int, kk = (q : Int) - 1 := ⟨_, rfl⟩
                      rw [← hkk]
                      have HKK := hid hkk
                      have hkb : -1 ≤ kk ∧ kk ≤ 17 := by omega
                      clear hkk
                      by_cases h16 : kk ≤ 16
                      · have HOAT := hid (fun W (hW : Below wz.heap.size wz W) => HKX.out.below (HBZ.out.trans (hW.mono HBZ.out.size)))
                        by_cases hin : 0 ≤ kk ∧ kk < (l2.length : Int)
                        · obtain ⟨k9, hk9⟩ : ∃ k9 : Nat, kk = (k9 : Int) := ⟨kk.toNat, by omega⟩
                          subst hk9
                          have hkl : k9 < l2.length := by omega
                          obtain ⟨qv, cv, ev, hqv, c0, c1, c2, c3⟩ := nd_of HVX.out (HBZ.out.trans ((Below.refl _ wz).alloc HBZ.out.size (.cells #[.int .u8 0, .int .u32 0, .int .u32 0, .int .u32 0] 49))) hkl
                          have HND := hid (ndI_in l2 k9 hkl)
                          obtain ⟨x, hx⟩ : ∃ x, x = nd l2 k9 := ⟨_, rfl⟩
                          rw [← hx] at c0 c1 c2 c3 HND
                          obtain ⟨x0, x1', x2', x3'⟩ := x
                          dsimp only at c0 c1 c2 c3
                          obtain ⟨wq, hwq⟩ : ∃ wq, wq = wz.alloc (.cells #[.int .u8 (x0 : Int), .int .u32 (x1' : Int), .int .u32 (x2' : Int), .int .u32 (x3' : Int)] 49) := ⟨_, rfl⟩
                          have hbq : Below wz.heap.size wz wq := by rw [hwq]; exact (Below.refl _ _).alloc (Nat.le_refl _) _
                          have hxq : wq.heap[wz.heap.size]? = some (.cells #[.int .u8 (x0 : Int), .int .u32 (x1' : Int), .int .u32 (x2' : Int), .int .u32 (x3' : Int)] 49 (0, 0)) := by rw [hwq]; exact heap_alloc_new wz _
                          have HKQ := HOAT.out wq hbq
                          have HST := hid (fun m => stateO (wq.drewN m) (some (b, g)) l2 (k9 : Int) (HKQ.drewN m))
                          have HLI := hid (fun m => lifeO (wq.drewN m) (some (b, g)) l2 (k9 : Int) (HKQ.drewN m))
                          have HUN := hid (fun m => untilO (wq.drewN m) (some (b, g)) l2 (k9 : Int) (HKQ.drewN m))
                          rw [HND.out] at HST HLI HUN
                          dsimp only at HST HLI HUN
                          have z0 : wq.cell? ⟨wz.heap.size, 0, none⟩ = some (.int .u8 (x0 : Int)) := (cell_of_row _ _ _ _ _ _ hxq).trans rfl
                          have z1 : wq.cell? ⟨wz.heap.size, 1, none⟩ = some (.int .u32 (x1' : Int)) := (cell_of_row _ _ _ _ _ _ hxq).trans rfl
                          have z3 : wq.cell? ⟨wz.heap.size, 3, none⟩ = some (.int .u32 (x3' : Int)) := (cell_of_row _ _ _ _ _ _ hxq).trans rfl
                          have HBQ := hid (HBZ.out.trans (hbq.mono HBZ.out.size))
                          have hki1 : (k9 : Int) < (l2.length : Int) := by omega
                          have hki2 : (0 : Int) ≤ (k9 : Int) := by omega
                          have h16n : k9 ≤ 16 := by omega
                          clear hx hbq hxq HKQ
                          simp only [Value.slice.injEq] at ev
                          obtain ⟨rfl, -, rfl⟩ := ev
                          go_upto_region 40 with fail
                          rw [← hwq]
                          clear hwq c0 c1 c2 c3
                          go_quiet (first
                            | (go_at_call 14; exact quiet_first (HST.out _))
                            | (go_at_call 15; exact quiet_first (HLI.out _))
                            | (go_at_call 16; exact quiet_first (HUN.out _))
                            | fail)
                          go_wp2_with fail
                          go_roundw
                          case rel => exact ⟨q + 1, by have := HKK.out; omega, by rw [show ((q + 1 : Nat) : Int) - 1 = (k9 : Int) + 1 by have := HKK.out; omega], below_dn HBQ.out nq⟩
                          case measure => simp [intOf]; omega
                        · have HND := hid (ndI_out l2 kk (by omega))
                          obtain ⟨wq, hwq⟩ : ∃ wq, wq = wz.alloc (.cells #[.int .u8 0, .int .u32 0, .int .u32 0, .int .u32 0] 49) := ⟨_, rfl⟩
                          have hbq : Below wz.heap.size wz wq := by rw [hwq]; exact (Below.refl _ _).alloc (Nat.le_refl _) _
                          have hxq : wq.heap[wz.heap.size]? = some (.cells #[.int .u8 0, .int .u32 0, .int .u32 0, .int .u32 0] 49 (0, 0)) := by rw [hwq]; exact heap_alloc_new wz _
                          have HKQ := HOAT.out wq hbq
                          have HST := hid (fun m => stateO (wq.drewN m) (some (b, g)) l2 kk (HKQ.drewN m))
                          have HLI := hid (fun m => lifeO (wq.drewN m) (some (b, g)) l2 kk (HKQ.drewN m))
                          have HUN := hid (fun m => untilO (wq.drewN m) (some (b, g)) l2 kk (HKQ.drewN m))
                          rw [HND.out] at HST HLI HUN
                          dsimp only at HST HLI HUN
                          have z0 : wq.cell? ⟨wz.heap.size, 0, none⟩ = some (.int .u8 0) := (cell_of_row _ _ _ _ _ _ hxq).trans rfl
                          have z1 : wq.cell? ⟨wz.heap.size, 1, none⟩ = some (.int .u32 0) := (cell_of_row _ _ _ _ _ _ hxq).trans rfl
                          have z3 : wq.cell? ⟨wz.heap.size, 3, none⟩ = some (.int .u32 0) := (cell_of_row _ _ _ _ _ _ hxq).trans rfl
                          have HBQ := hid (HBZ.out.trans (hbq.mono HBZ.out.size))
                          clear hbq hxq HKQ
                          by_cases h0 : kk < 0
                          · have e0 : decide (kk ≥ 0) = false := decide_eq_false (by omega)
                            have e1 : decide ((0 : Int) ≤ kk) = false := decide_eq_false (by omega)
                            have e2 : ¬ (0 : Int) ≤ kk := by omega
                            clear hin h0
                            go_upto_region 40 with fail
                            rw [← hwq]
                            clear hwq
                            go_quiet (first
                              | (go_at_call 14; exact quiet_first (HST.out _))
                              | (go_at_call 15; exact quiet_first (HLI.out _))
                              | (go_at_call 16; exact quiet_first (HUN.out _))
                              | fail)
                            go_wp2_with fail
                            go_roundw
                            case rel => exact ⟨q + 1, by have := HKK.out; omega, by rw [show ((q + 1 : Nat) : Int) - 1 = kk + 1 by have := HKK.out; omega], below_dn HBQ.out nq⟩
                            case measure => simp [intOf]; have := HKK.out; omega
                          · have e0 : decide (kk ≥ 0) = true := decide_eq_true (by omega)
                            have e1 : decide ((0 : Int) ≤ kk) = true := decide_eq_true (by omega)
                            have e2 : decide (kk < (l2.length : Int)) = false := decide_eq_false (by omega)
                            have e3 : ¬ kk < (l2.length : Int) := by omega
                            have e4 : (0 : Int) ≤ kk := by omega
                            clear hin h0
                            go_upto_region 40 with fail
                            rw [← hwq]
                            clear hwq
                            go_quiet (first
                              | (go_at_call 14; exact quiet_first (HST.out _))
                              | (go_at_call 15; exact quiet_first (HLI.out _))
                              | (go_at_call 16; exact quiet_first (HUN.out _))
                              | fail)
                            go_wp2_with fail
                            go_roundw
                            case rel => exact ⟨q + 1, by have := HKK.out; omega, by rw [show ((q + 1 : Nat) : Int) - 1 = kk + 1 by have := HKK.out; omega], below_dn HBQ.out nq⟩
                            case measure => simp [intOf]; have := HKK.out; omega
                      · have HKY := hid (HKX.out.below HBZ.out)
                        have HVY := hid (owns_below HVX.out HBZ.out)
                        have HBY := hid (HBX.out.trans (HBZ.out.mono HBX.out.size))
                        go_wp2_with fail
                        go_roundw
                        case rel => exact ⟨k + 1, l2, hlt, by have := HWK.out; omega, by go_num, HKY.out, HVY.out, HBY.out⟩
                        case measure => simp [intOf]; omega
        · have hk6 : decide ((k : Int) ≥ 100) = true := decide_eq_true (by omega)
          have HBM := hid (HBW.out.trans (hbm.mono HBW.out.size))
          go_wp2_with fail
          rw [← hwm]
          go_ret
          exact ⟨rfl, HBM.out⟩
      · have hki : ¬ (k : Int) < (len1 : Int) := by omega
        go_wp2_with fail
        go_ret
        exact ⟨rfl, HBW.out⟩

/-! ### THE ROW's STEP -/
set_option maxRecDepth 100000 in
theorem lifted (os : Os) (started : os.Started) (H : Type) (enc : TypeId × Value → H) :
    ReturnsInHanded {} Try.checked os 3 .any (Rows.leasePlaysSpec.pre6 enc Try.prog Try.f3 Rows.leasePlaysRow.domain false) (Rows.leasePlaysSpec.post enc Try.prog Try.f3 false true false false) := by
  refine returnsInHanded_of_change (C := Try.checked) own started (by kernel_rfl) Try.func3
    (ChangeSpec.witness6 (enc := enc) (C := Try.checked) false ⟨#[], #[.int .i64 0, .slice none 0 0], []⟩ 8 (by kernel_rfl) (by kernel_rfl) (by kernel_rfl) (by kernel_rfl)) ?_
  intro W base args ds gs before hval0 hW hcnd _
  have hval : ∀ (j : Nat) t v, Try.f3.params[j]? = some t → args[j]? = some v → Value.okWide Try.prog W .any base t v := hval0
  have hW' := hW
  obtain ⟨p, q, hA0, hV, rfl, hfz, hnd⟩ := hW
  have hA : DataW.TrodAll enc Try.prog W 0 (fun _ => true) true Try.f3.params.toList args.toList ds p := hA0
  rw [Try.params3] at hA hval
  obtain ⟨v0, vs0, d0, ds0, p0, q0, hargs, rfl, rfl, h0, r0⟩ := trodAll_cons hA
  obtain ⟨v1, vs1, d1, ds1, p1, q1, rfl, rfl, rfl, h1, r1⟩ := trodAll_cons r0
  obtain ⟨rfl, rfl, rfl⟩ := trodAll_nil r1
  obtain rfl : args = #[v0, v1] := by cases args; simp_all
  obtain ⟨rfl, rfl⟩ := trodVars_none hV
  have k0 := h0
  have lt0 : ∀ x ∈ p0, x.block < W.heap.size := by obtain ⟨m, hm⟩ := k0; exact DataW.trod_lt m _ _ _ hm
  have k1 := h1
  have lt1 : ∀ x ∈ p1, x.block < W.heap.size := by obtain ⟨m, hm⟩ := k1; exact DataW.trod_lt m _ _ _ hm
  obtain ⟨a0, rfl, rfl, rfl, w0⟩ := open_int Try.underlying3 (hval 0 3 v0 rfl rfl) h0
  obtain ⟨a1, len1, cap1, rfl⟩ := okWide_slice Try.underlying22 (hval 1 22 v1 rfl rfl)
  have w1 : IsOps18 W a1 len1 cap1 := isOps18_of h1
  clear hA0 hval0
  refine (walk a0 a1 len1 cap1 W w0 w1).mono fun e W' ⟨he, bel⟩ => ?_
  subst he
  exact ⟨_, rfl, _, _, _, [], _, [], hW', trodAll_mk1 (shut_bool Try.underlying4 _), (trodAll_cons_mk (Below.trod laidOut (by kernel_rfl) (of_decide_eq_true (by kernel_rfl)) k0 bel lt0) (trodAll_cons_mk (Below.trod laidOut (by kernel_rfl) (of_decide_eq_true (by kernel_rfl)) k1 bel lt1) trodAll_mk0)), rfl, bel.frame _, fun h => by cases h⟩

theorem over : Rows.leasePlaysRow.holds Try.pinned (OpenSpec.ofChange Rows.leasePlaysSpec) :=
  OpenClaim.holds_of_wide 3 Try.f3 rfl rfl rfl rfl rfl rfl rfl ⟨rfl, rfl, rfl, rfl, rfl⟩ rfl rfl rfl rfl rfl (by kernel_rfl) Try.func3 (by kernel_rfl)
    (of_decide_eq_true (by kernel_rfl)) (by unfold Func.isWrapper; first | (rw [if_pos (by decide +kernel)]; kernel_rfl) | (rw [if_neg (by decide +kernel)]; exact ⟨rfl, rfl⟩))
    (fun os started H enc _ => lifted os started H enc)

/-- THE STATEMENT -/
theorem leasePlays_holds : Rows.LeasePlaysSaid := over
#print axioms leasePlays_holds
end Go.Proofs.Ytljnkebmdegcpaa.leasePlays
