/-
  PrioApart: who goes and who comes changes nothing of the order of the others. No condition.
  (The frame behind the walk is the guide's shell, at these parameters.)
-/
import Derived.Test.YtdbjakohgdpdeaaRows
import Derived.WalkKit
import Derived.Test.YtdbjakohgdpdeaaPrL
import Derived.Test.YtdbjakohgdpdeaaPrI
import Derived.Test.YtdbjakohgdpdeaaPrP
import Derived.Test.YtdbjakohgdpdeaaPrZ
import Derived.ProofKit
import Derived.Deep.Cut
import Derived.Deep.CutRange
import Derived.Deep.CutBlock
import Derived.Deep.Grids
import Derived.OpenShut
import Derived.ShutString
import Derived.ChangeOld
import Derived.Below
namespace Go.Proofs.Ytdbjakohgdpdeaa.prioApart
open Go.ChangeShapes Go.WideShapes Go.ChangeAt Go.RowKit
open Go.ChangeMaps (open_string shut_string)
set_option linter.unusedVariables false

theorem own : ownKnob Try.prog.godebug = none := by kernel_rfl
theorem laidOut : laidOutB Try.prog = true := by kernel_rfl

set_option linter.unusedSimpArgs false
section
variable {w : World} {ops : Array Oper} {rest : List Oper} {o : Oper} {a : Act} {Q : Exit → Act → World → Prop}
theorem ap_it (hgd : o.guard = none) (TS TN : TypeId) (s x : Operand) (ho : o.op = .call { callee := .builtin .append, args := #[s, x], argTypes := #[TS, TN] }) (v u r : Value) (w' : World) (hs : a.eval s = v) (hx : a.eval x = u)
    (hrun : (Builtin.append_ #[TS, TN] o.type #[v, u]).run Try.prog w = .ok r w') (h : wpList Try.prog ops Q rest (a.put o.dst r) w') : wpList Try.prog ops Q (o :: rest) a w :=
  wpList_plain hgd fun _ hK => by
    unfold Oper.wp
    simp [execOp, ho, resolve, invoke, builtin, hs, hx, hrun, Result.andThen]
    exact hK _ _ h
end
theorem iw1 (k : Nat) (h : k < 9223372036854775807) : IntKind.i64.wrap ((k : Int) + 1) = (k : Int) + 1 := by
  rw [IntKind.wrap_i64]; omega
theorem w64s (k : Nat) (h : k < 9223372036854775807) : Go.RowKit.wrap64 ((k : Int) + 1) = ((k + 1 : Nat) : Int) := by unfold Go.RowKit.wrap64; omega
theorem plc_is {q : List It} {x : It} (h : x ∈ q) : (plc q x.1).isSome = true := by
  cases hp : plc q x.1 with
  | some k => rfl
  | none => exact absurd rfl (plc_none.1 hp x h)
theorem filt_small {l : List It} {p : It → Bool} {n : Nat} (h : l.length ≤ n) (k : Nat) : ((l.take k).filter p).length ≤ n :=
  Nat.le_trans (List.length_filter_le _ _) (Nat.le_trans (List.length_take_le' _ _) h)
/-- Between the pushes. -/
def PaRel (y0 : World) (lo b m : Nat) (k : Nat) (wr : World) : Prop := ∃ (v : Value) (q : List It), q.length ≤ k ∧ q.length ≤ 60 ∧ RwAt wr lo b v m q ∧ HeapN q q.length ∧ Below y0.heap.size y0 wr
theorem PaRel.step {y0 wr w' : World} {lo b m k : Nat} (h : PaRel y0 lo b m k wr) (hb : Below wr.heap.size wr w') : PaRel y0 lo b m (k + 1) w' := by
  obtain ⟨v, q, h1, h2, h3, h4, h5⟩ := h
  exact ⟨v, q, by omega, h2, h3.below hb, h4, h5.trans (hb.mono h5.size)⟩
set_option maxRecDepth 100000 in
set_option maxHeartbeats 8000000 in
theorem walk (a0 : Option Addr) (len0 cap0 : Nat) (v1 : Value) (w : World) (w0 : IsItems w a0 len0 cap0) (w1 : IsItem w v1) :
    Calls Try.prog 4 #[.slice a0 len0 cap0, v1] w fun e w' => e = .returned (.bool true) ∧ Below w.heap.size w w' := by
  obtain ⟨L, hL, hrd⟩ := w0.rdi len0
  obtain ⟨hlc, hcm⟩ := w0.bounds
  obtain ⟨x, rfl, hkx⟩ := w1
  have HR := hid hrd
  have HL := hid (show L.length = len0 by rw [hL]; omega)
  have HKX := hid hkx
  clear w0 hrd hL hkx
  obtain ⟨y0, hy0⟩ : ∃ y, y = w.alloc (.cells #[.int .u32 x.1, .int .u8 x.2.1, .int .u32 x.2.2] 29) := ⟨_, rfl⟩
  have hby : Below w.heap.size w y0 := by rw [hy0]; exact (Below.refl _ _).alloc (Nat.le_refl _) _
  have hbx : y0.heap[w.heap.size]? = some (.cells #[.int .u32 x.1, .int .u8 x.2.1, .int .u32 x.2.2] 29 (0, 0)) := by rw [hy0]; exact heap_alloc_new w _
  have hys : y0.heap.size = w.heap.size + 1 := by rw [hy0]; simp
  have HBY := hid hby
  have HBX := hid (fun (wr : World) (hb : Below y0.heap.size y0 wr) => (hb.block w.heap.size (by omega)).trans hbx)
  have HXC := hid (fun (wr : World) (hb : Below y0.heap.size y0 wr) => show wr.cell? ⟨w.heap.size, 0, none⟩ = some (.int .u32 x.1) ∧ wr.cell? ⟨w.heap.size, 1, none⟩ = some (.int .u8 x.2.1) ∧ wr.cell? ⟨w.heap.size, 2, none⟩ = some (.int .u32 x.2.2) from
    ⟨(cell_of_row _ _ _ _ _ _ (HBX.out wr hb)).trans rfl, (cell_of_row _ _ _ _ _ _ (HBX.out wr hb)).trans rfl, (cell_of_row _ _ _ _ _ _ (HBX.out wr hb)).trans rfl⟩)
  have HRY := hid (show RdI y0 a0 L from HR.out.all hby)
  obtain ⟨px, hpx⟩ : ∃ p, p = w.heap.size := ⟨_, rfl⟩
  have HYS := hid hys
  have HY0 := hid hy0
  clear hby hbx hys HBX
  unfold itv
  go_enter Try.func4, Try.ntmps4
  go_upto_region 1 with (fail)
  rw [← hy0, ← hpx]
  rw [← hpx] at HXC
  have HPXS := hid hpx
  clear hy0 hpx
  go_wp2_with fail
  refine (awake11_any y0).mono ?_
  rintro e x1 ⟨rfl, hb1⟩
  have HB1 := hid hb1
  have hs1 := hb1.size
  clear hb1
  go_wp2_with fail
  refine (new11_any x1).mono ?_
  rintro e x2 ⟨rfl, hr2, hb2⟩
  have HR2 := hid hr2
  have HB2 := hid (show Below y0.heap.size y0 x2 from HB1.out.trans (hb2.mono hs1))
  clear hr2 hb2
  obtain ⟨b, hb⟩ : ∃ b, b = x1.heap.size + 1 := ⟨_, rfl⟩
  obtain ⟨m, hm⟩ : ∃ m, m = x1.heap.size := ⟨_, rfl⟩
  rw [← hb, ← hm] at HR2
  simp only [← hb]
  have HST := hid (show PaRel y0 m b m 0 x2 from ⟨_, [], Nat.le_refl _, Nat.zero_le _, HR2.out, fun k _ h => absurd h (by simp), HB2.out⟩)
  have HYM := hid (show y0.heap.size ≤ m by omega)
  clear HR2 HB2 HB1 hs1 hb hm
  obtain ⟨lo, hlo⟩ : ∃ lo, lo = m := ⟨_, rfl⟩
  have HST1 := hid (show PaRel y0 lo b m 0 x2 by rw [hlo]; exact HST.out)
  have HYL := hid (show y0.heap.size ≤ lo by rw [hlo]; exact HYM.out)
  clear HST HYM hlo
  go_wp2_with fail
  go_loopw [19] (fun i wr => ∃ (k : Nat), i = .int .i64 k ∧ k ≤ len0 ∧ PaRel y0 lo b m k wr) (fun i _ => len0 - (intOf i).toNat)
  case atStart => exact ⟨0, rfl, Nat.zero_le _, HST1.out⟩
  case round =>
    obtain ⟨k, rfl, hk, hP⟩ := hrel
    have HP := hid hP
    clear hP
    by_cases hlt : k < len0
    · have hki : (k : Int) < (len0 : Int) := by omega
      obtain ⟨t, ht⟩ : ∃ t, L[k]? = some t := ⟨_, List.getElem?_eq_getElem (by have := HL.out; omega)⟩
      have hwr1 : Below y0.heap.size y0 wr := by obtain ⟨_, _, _, _, _, _, h⟩ := HP.out; exact h
      obtain ⟨hkt, g, off, rfl, hgl, z0, z1, z2⟩ := (HRY.out.all hwr1) k t ht
      obtain ⟨t0, t1, t2⟩ := t
      dsimp only at hkt z0 z1 z2
      have HKT := hid hkt
      have hw1 := w64s k (by omega)
      obtain ⟨y1, hy1⟩ : ∃ y, y = wr.alloc (.cells #[.int .u32 t0, .int .u8 t1, .int .u32 t2] 29) := ⟨_, rfl⟩
      have hby : Below wr.heap.size wr y1 := by rw [hy1]; exact (Below.refl _ _).alloc (Nat.le_refl _) _
      have hbx : y1.heap[wr.heap.size]? = some (.cells #[.int .u32 t0, .int .u8 t1, .int .u32 t2] 29 (0, 0)) := by rw [hy1]; exact heap_alloc_new wr _
      have e0 : y1.cell? ⟨wr.heap.size, 0, none⟩ = some (.int .u32 t0) := (cell_of_row _ _ _ _ _ _ hbx).trans rfl
      have e1 : y1.cell? ⟨wr.heap.size, 1, none⟩ = some (.int .u8 t1) := (cell_of_row _ _ _ _ _ _ hbx).trans rfl
      have e2 : y1.cell? ⟨wr.heap.size, 2, none⟩ = some (.int .u32 t2) := (cell_of_row _ _ _ _ _ _ hbx).trans rfl
      have HY1 := hid hby
      obtain ⟨pt, hpt⟩ : ∃ p, p = wr.heap.size := ⟨_, rfl⟩
      rw [← hpt] at e0 e1 e2
      have HKL := hid hk
      clear hkt hbx hby ht hwr1
      go_upto_region 7 with (fail)
      rw [← hy1, ← hpt]
      clear hy1 z0 z1 z2 hpt
      by_cases h60 : k < 60
      · have d1 : decide ((k : Int) < 60) = true := decide_eq_true (by omega)
        obtain ⟨v, q, hq1, hq2, hR, hH, hB⟩ := HP.out
        have HRy := hid (hR.below HY1.out)
        have HBy := hid (hB.trans (HY1.out.mono hB.size))
        have HQ := hid hq1
        have HHq := hid hH
        clear hR hH hB
        by_cases hpl : (plc q t0).isSome = true
        · have HPN := hid (push11_no y1 lo b m v q (t0, t1, t2) HRy.out HKT.out hpl)
          unfold itv at HPN
          dsimp only at HPN
          clear hpl hq1 h60
          go_wp2_with (first | (go_at_call 8; (with_reducible refine HPN.out.mono ?_); rintro e w2 ⟨rfl, hb2⟩; have HW2 := hid hb2; clear hb2) | fail)
          go_roundw
          case rel => exact ⟨k + 1, by go_num, hlt, v, q, by have := HQ.out; omega, hq2, HRy.out.below HW2.out, HHq.out, HBy.out.trans (HW2.out.mono HBy.out.size)⟩
          case measure => simp [intOf]; omega
        · have hpn : plc q t0 = none := by cases h : plc q t0 with | none => rfl | some _ => exact absurd (by rw [h]; rfl) hpl
          have HPY := hid (push11_yes y1 lo b m v q (t0, t1, t2) HRy.out HHq.out HKT.out hpn (by omega) (by have h1 := HRy.out.lt; have h2 := HRy.out.lob; omega))
          unfold itv at HPY
          dsimp only at HPY
          clear hpl hq1 hpn
          go_wp2_with (first | (go_at_call 8; (with_reducible refine HPY.out.mono ?_); rintro e w2 ⟨rfl, v2, q2, hr2, hh2, hp2, hk2, ho2⟩; have HW2 := hid hr2; have HH2 := hid hh2; have HP2 := hid (show q2.length = q.length + 1 from hp2.length_eq); have HK2 := hid hk2; clear hr2 hh2 hp2 hk2 ho2) | fail)
          go_roundw
          case rel => exact ⟨k + 1, by go_num, hlt, v2, q2, by have := HQ.out; have := HP2.out; omega, by have := HQ.out; have := HP2.out; omega, HW2.out, HH2.out, HBy.out.trans (HK2.out.lo HBy.out.size (fun p hp => Nat.le_trans HYL.out (HRy.out.hb p hp)))⟩
          case measure => simp [intOf]; omega
      · have d1 : decide ((k : Int) < 60) = false := decide_eq_false (by omega)
        have HPS := hid (HP.out.step HY1.out)
        clear h60
        go_wp2_with fail
        go_roundw
        case rel => exact ⟨k + 1, by go_num, hlt, HPS.out⟩
        case measure => simp [intOf]; omega
    · have hki : ¬ (k : Int) < (len0 : Int) := by omega
      obtain ⟨v, q, hq1, hq2, hR, hH, hB⟩ := HP.out
      have HLI := hid (list11_any wr lo b m v q hR)
      have HRw := hid hR
      have HHw := hid hH
      have HBw := hid hB
      have HQ2 := hid hq2
      clear hR hH hB hq1 hq2 HP hlt hk
      obtain ⟨wp, hwp⟩ : ∃ y, y = wr := ⟨_, rfl⟩
      subst hwp
      obtain ⟨A, hA⟩ : ∃ A, A = inOrder q := ⟨_, rfl⟩
      have HA := hid hA
      have HAL := hid (show A.length = q.length by rw [hA]; exact inOrder_len q)
      rw [← hA, ← HAL.out] at HLI
      clear hA
      go_upto_region 11 with (fail)
      clear hki
      go_wp2_with (first | (go_at_call 16; (with_reducible refine HLI.out.mono ?_); rintro e w3 ⟨vA, rfl, hrA, hbA⟩; obtain ⟨aA, cA, rfl, hnA, hcA⟩ := owns_slice hrA; have HRA := hid hrA; have HR3 := hid (HRw.out.below hbA); have HB3 := hid (HBw.out.trans (hbA.mono HBw.out.size)); clear hrA hbA) | fail)
      have HA60 := hid (show A.length ≤ 60 by rw [HAL.out]; exact HQ2.out)
      go_loopw [8, 33] (fun s i wr => ∃ (k : Nat) (a : Option Addr) (c : Nat), i = .int .i64 k ∧ k ≤ A.length ∧ s = .slice a ((A.take k).filter (neId x.1)).length c ∧ wr.ownsRow w3.heap.size 32 3 s ((A.take k).filter (neId x.1)).length (cels ((A.take k).filter (neId x.1))) ∧ Below w3.heap.size w3 wr) (fun _ i _ => A.length - (intOf i).toNat)
      case atStart => exact ⟨0, none, 0, rfl, Nat.zero_le _, rfl, World.ownsRow_nil _ _ _ _, Below.refl _ _⟩
      case round =>
        obtain ⟨k, aw, cw, rfl, hk, rfl, hW, hB⟩ := hrel
        have HW := hid hW
        have HB := hid hB
        have hBy := HB3.out.trans (hB.mono HB3.out.size)
        obtain ⟨e0, -, -⟩ := HXC.out wr hBy
        have HBY2 := hid hBy
        clear hW hBy
        by_cases hlt : k < A.length
        · have ho := owns_below HRA.out hB
          obtain ⟨gA, rfl⟩ : ∃ g, aA = some ⟨g, 0, none⟩ := by
            rcases owns_shape HRA.out with ⟨_, e⟩ | ⟨g, cap, e, _⟩
            · omega
            · simp only [Value.slice.injEq] at e
              exact ⟨g, e.1⟩
          obtain ⟨z0, z1, z2, -, -, -⟩ := own_item ho hlt
          have HYY := hid (show ((A.take (k + 1)).filter (neId x.1)) = if (it A k).1 = x.1 then (A.take k).filter (neId x.1) else (A.take k).filter (neId x.1) ++ [it A k] from by
            split
            · exact filt_take_no hlt (by unfold neId; simp [*])
            · exact filt_take_yes hlt (by unfold neId; simp [*]))
          obtain ⟨y, hy⟩ : ∃ y, y = it A k := ⟨_, rfl⟩
          rw [← hy] at HYY z0 z1 z2
          obtain ⟨t0, t1, t2⟩ := y
          dsimp only at HYY z0 z1 z2
          have hki : (k : Int) < (A.length : Int) := by omega
          have hw1 := w64s k (by omega)
          obtain ⟨y1, hy1⟩ : ∃ y, y = wr.alloc (.cells #[.int .u32 t0, .int .u8 t1, .int .u32 t2] 32) := ⟨_, rfl⟩
          have hby : Below wr.heap.size wr y1 := by rw [hy1]; exact (Below.refl _ _).alloc (Nat.le_refl _) _
          have hbx : y1.heap[wr.heap.size]? = some (.cells #[.int .u32 t0, .int .u8 t1, .int .u32 t2] 32 (0, 0)) := by rw [hy1]; exact heap_alloc_new wr _
          have q0 : y1.cell? ⟨wr.heap.size, 0, none⟩ = some (.int .u32 t0) := (cell_of_row _ _ _ _ _ _ hbx).trans rfl
          have q1 : y1.cell? ⟨wr.heap.size, 1, none⟩ = some (.int .u8 t1) := (cell_of_row _ _ _ _ _ _ hbx).trans rfl
          have q2 : y1.cell? ⟨wr.heap.size, 2, none⟩ = some (.int .u32 t2) := (cell_of_row _ _ _ _ _ _ hbx).trans rfl
          have HY1 := hid hby
          have HK := hid hlt
          obtain ⟨r, hr⟩ : ∃ r, r = (A.take k).filter (neId x.1) := ⟨_, rfl⟩
          have HRL := hid (show r.length ≤ 60 by rw [hr]; exact filt_small HA60.out k)
          rw [← hr] at HW HYY ⊢
          obtain ⟨ad, cp, wa, hrun, hown, hbel⟩ := app_item y1 w3.heap.size aw cw r (t0, t1, t2) (owns_below HW.out hby) (Nat.le_trans HB.out.size hby.size) (by have := HRL.out; omega)
          have HRUN := hid hrun
          have HOW := hid hown
          have HBL := hid hbel
          obtain ⟨pt, hpt⟩ : ∃ p, p = wr.heap.size := ⟨_, rfl⟩
          rw [← hpt] at q0 q1 q2
          have e0' : y1.cell? ⟨px, 0, none⟩ = some (.int .u32 x.1) := (HXC.out y1 (HBY2.out.trans (hby.mono HBY2.out.size))).1
          clear hby hbx ho hr hy hB hrun hown hbel hlt
          go_upto_region 14 with (fail)
          rw [← hy1, ← hpt]
          clear hy1 z0 z1 z2 hpt e0
          by_cases he : t0 = x.1
          · have HE := hid (HYY.out.trans (if_pos he))
            clear HYY
            go_wp2_with fail
            go_roundw
            case rel => exact ⟨k + 1, aw, cw, by go_num, HK.out, by rw [HE.out], by rw [HE.out]; exact owns_below HW.out HY1.out, HB.out.trans (HY1.out.mono HB.out.size)⟩
            case measure => have := HK.out; simp [intOf]; omega
          · have HE := hid (HYY.out.trans (if_neg he))
            clear HYY
            go_wp2_with (first | (at_builtin; refine ap_it rfl 45 45 (.tmp 42) (.tmp 44) rfl _ _ _ _ rfl rfl HRUN.out ?_) | fail)
            go_roundw
            case rel => exact ⟨k + 1, ad, cp, by go_num, HK.out, by rw [HE.out, List.length_append]; rfl, by rw [HE.out]; have h := HOW.out; rw [List.length_append] at h ⊢; exact h, HB.out.trans ((HY1.out.mono HB.out.size).trans HBL.out)⟩
            case measure => have := HK.out; simp [intOf]; omega
        · have hki : ¬ (k : Int) < (A.length : Int) := by omega
          have hkA : (A.take k) = A := List.take_of_length_le (by omega)
          rw [hkA] at HW ⊢
          have hHS := has11_any wr lo b m v q x.1 (HR3.out.below hB) HKX.out
          have HHS := hid hHS
          obtain ⟨W, hW⟩ : ∃ W, W = A.filter (neId x.1) := ⟨_, rfl⟩
          have HWD := hid hW
          rw [← hW] at HW ⊢
          obtain ⟨aW, haW⟩ : ∃ a, a = aw := ⟨_, rfl⟩
          subst haW
          have HR4 := hid (HR3.out.below hB)
          obtain ⟨w4, hw4⟩ : ∃ y, y = wr := ⟨_, rfl⟩
          subst hw4
          obtain ⟨e0, e1, e2⟩ := HXC.out w4 HBY2.out
          have HWG := hid (fun p (hp : Hb b m v p) => show p < w3.heap.size from by
            rcases hp with e | e | e
            · have := HR3.out.lt; omega
            · have := HR3.out.mp.lt; omega
            · exact (World.ownsRow.lt HR3.out.own p e).2)
          have HOW := hid (fun p (hp : (Value.slice aW W.length cw).ownBlock = some p) => owns_blk_ge HW.out p hp)
          have HB5 := hid (fun (w' : World) (hk : Keeps (Hb b m v) w4 w') => show Below y0.heap.size y0 w' from HBY2.out.trans (hk.lo HBY2.out.size (fun p hp => Nat.le_trans HYL.out (HR4.out.hb p hp))))
          have HW5 := hid (fun (w' : World) (hk : Keeps (Hb b m v) w4 w') => show w'.ownsRow w3.heap.size 32 3 (.slice aW W.length cw) W.length (cels W) from owns_by HW.out fun p hp => hk.block p (World.ownsRow.lt HW.out p hp).2 fun hh => by have h1 := HWG.out p hh; have h2 := HOW.out p hp; omega)
          clear hB hW hkA hHS
          cases hpl : plc q x.1 with
          | some kk =>
            rw [hpl] at HHS
            have HCH := hid (change11_yes w4 lo b m v q x kk HR4.out HHw.out HKX.out hpl)
            obtain ⟨hkl, hki2⟩ := (plc_some HRw.out.ids).1 hpl
            have HPF := hid (fun (q' : List It) (hp : q'.Perm (q.set kk x)) => show (q'.filter (neId x.1)).Perm (q.filter (neId x.1)) ∧ ∃ k2, plc q' x.1 = some k2 from ⟨by have h1 := hp.filter (neId x.1); rw [filt_set hkl hki2] at h1; exact h1, by
              have h2 : (plc q' x.1).isSome = true := plc_is (hp.mem_iff.2 (List.mem_set hkl x))
              exact Option.isSome_iff_exists.1 h2⟩)
            unfold itv at HCH
            clear hpl hkl hki2
            go_upto_region 20 with (first
              | (go_at_call 14; (with_reducible refine HHS.out.mono ?_); rintro e w5 ⟨rfl, rfl⟩)
              | (go_at_call 12; (with_reducible refine HCH.out.mono ?_); rintro e w6 ⟨rfl, q6, hr6, hh6, hp6, hk6⟩; have HR6 := hid hr6; have HH6 := hid hh6; have HPM := hid (HPF.out q6 hp6).1; have HPX := hid (HPF.out q6 hp6).2; have HB6 := hid (HB5.out w6 hk6); have HW6 := hid (HW5.out w6 hk6); clear hr6 hh6 hp6 hk6)
              | fail)
            obtain ⟨v6, hv6⟩ : ∃ y, y = v := ⟨_, rfl⟩
            rw [← hv6] at HR6
            have HWB := hid (show (inOrder q6).filter (neId x.1) = W by rw [HWD.out, HA.out]; exact inOrder_apart HRw.out.ids HR6.out.ids x.1 HPM.out)
            have HLJ := hid (list11_any w6 lo b m v6 q6 HR6.out)
            obtain ⟨B, hB2⟩ : ∃ B, B = inOrder q6 := ⟨_, rfl⟩
            have HBD := hid hB2
            have HBQ := hid (show B.length = q6.length by rw [hB2]; exact inOrder_len q6)
            rw [← hB2] at HWB HLJ
            rw [← HBQ.out] at HLJ
            have HB61 := hid (show B.length ≤ 10000 by rw [HBQ.out]; exact HR6.out.len)
            clear hB2
            go_wp2_with (first | (go_at_call 16; (with_reducible refine HLJ.out.mono ?_); rintro e w7 ⟨vB, rfl, hrB, hbB⟩; obtain ⟨aB, cB, rfl, hnB, hcB⟩ := owns_slice hrB; have HRB := hid hrB; have HR7 := hid (HR6.out.below hbB); have HB7 := hid (HB6.out.trans (hbB.mono HB6.out.size)); have HW7 := hid (owns_below HW6.out hbB); clear hrB hbB) | fail)
            go_loopw [11, 60] (fun s i wr => ∃ (k : Nat), i = .int .i64 k ∧ k ≤ B.length ∧ s = .int .i64 (((B.take k).filter (neId x.1)).length : Nat) ∧ Below w7.heap.size w7 wr) (fun _ i _ => B.length - (intOf i).toNat)
            case atStart => exact ⟨0, rfl, Nat.zero_le _, rfl, Below.refl _ _⟩
            case round =>
              obtain ⟨k, rfl, hk, rfl, hB⟩ := hrel
              have HB := hid hB
              have hBy := HB7.out.trans (hB.mono HB7.out.size)
              obtain ⟨e0, -, -⟩ := HXC.out wr hBy
              have HBY2 := hid hBy
              clear hBy
              by_cases hlt : k < B.length
              · have ho := owns_below HRB.out hB
                obtain ⟨gB, rfl⟩ : ∃ g, aB = some ⟨g, 0, none⟩ := by
                  rcases owns_shape HRB.out with ⟨_, e⟩ | ⟨g, cap, e, _⟩
                  · omega
                  · simp only [Value.slice.injEq] at e
                    exact ⟨g, e.1⟩
                obtain ⟨z0, z1, z2, -, -, -⟩ := own_item ho hlt
                obtain ⟨c, hc⟩ : ∃ c, c = ((B.take k).filter (neId x.1)).length := ⟨_, rfl⟩
                have HYN := hid (fun (he : (it B k).1 = x.1) => show ((B.take (k + 1)).filter (neId x.1)).length = c by rw [hc, filt_take_no hlt (by unfold neId; simp [he])])
                have HYY := hid (fun (he : ¬ (it B k).1 = x.1) => show ((B.take (k + 1)).filter (neId x.1)).length = c + 1 by rw [hc, filt_take_yes hlt (by unfold neId; simp [he]), List.length_append]; rfl)
                have HYA := hid (fun (he : ¬ (it B k).1 = x.1) => show c < W.length ∧ it W c = it B k by rw [hc, ← HWB.out]; exact filt_at hlt (by unfold neId; simp [he]))
                obtain ⟨y, hy⟩ : ∃ y, y = it B k := ⟨_, rfl⟩
                rw [← hy] at HYY HYN HYA z0 z1 z2
                rw [← hc]
                obtain ⟨t0, t1, t2⟩ := y
                dsimp only at HYY HYN HYA z0 z1 z2
                have hki : (k : Int) < (B.length : Int) := by omega
                have hw1 := w64s k (by omega)
                obtain ⟨y1, hy1⟩ : ∃ y, y = wr.alloc (.cells #[.int .u32 t0, .int .u8 t1, .int .u32 t2] 32) := ⟨_, rfl⟩
                have hby : Below wr.heap.size wr y1 := by rw [hy1]; exact (Below.refl _ _).alloc (Nat.le_refl _) _
                have hbx : y1.heap[wr.heap.size]? = some (.cells #[.int .u32 t0, .int .u8 t1, .int .u32 t2] 32 (0, 0)) := by rw [hy1]; exact heap_alloc_new wr _
                have q0 : y1.cell? ⟨wr.heap.size, 0, none⟩ = some (.int .u32 t0) := (cell_of_row _ _ _ _ _ _ hbx).trans rfl
                have q1 : y1.cell? ⟨wr.heap.size, 1, none⟩ = some (.int .u8 t1) := (cell_of_row _ _ _ _ _ _ hbx).trans rfl
                have q2 : y1.cell? ⟨wr.heap.size, 2, none⟩ = some (.int .u32 t2) := (cell_of_row _ _ _ _ _ _ hbx).trans rfl
                have HY1 := hid hby
                have HK := hid hlt
                have HCB := hid (show c ≤ 10000 by rw [hc]; exact filt_small HB61.out k)
                have HBE := hid (show Below w7.heap.size w7 y1 from hB.trans (hby.mono hB.size))
                obtain ⟨pt, hpt⟩ : ∃ p, p = wr.heap.size := ⟨_, rfl⟩
                rw [← hpt] at q0 q1 q2
                have e0' : y1.cell? ⟨px, 0, none⟩ = some (.int .u32 x.1) := (HXC.out y1 (HBY2.out.trans (hby.mono HBY2.out.size))).1
                clear hby hbx ho hy hB hlt hc
                go_upto_region 24 with (fail)
                rw [← hy1, ← hpt]
                clear hy1 z0 z1 z2 hpt e0
                by_cases he : t0 = x.1
                · have HE := hid (HYN.out he)
                  clear HYY HYN HYA
                  go_wp2_with fail
                  go_roundw
                  case rel => exact ⟨k + 1, by go_num, HK.out, by rw [HE.out], HBE.out⟩
                  case measure => have := HK.out; simp [intOf]; omega
                · have HE := hid (HYY.out he)
                  obtain ⟨hcW, hcI⟩ := HYA.out he
                  have how := owns_below HW7.out HBE.out
                  obtain ⟨gW, rfl⟩ : ∃ g, aW = some ⟨g, 0, none⟩ := by
                    rcases owns_shape HW7.out with ⟨_, e⟩ | ⟨g, cap, e, _⟩
                    · omega
                    · simp only [Value.slice.injEq] at e
                      exact ⟨g, e.1⟩
                  obtain ⟨s0, s1, s2, -, -, -⟩ := own_item how hcW
                  rw [hcI] at s0 s1 s2
                  dsimp only at s0 s1 s2
                  have hcw : (c : Int) < (W.length : Int) := by omega
                  have hcw' : ¬ (W.length : Int) ≤ (c : Int) := by omega
                  have d1 : decide ((c : Int) ≥ (W.length : Int)) = false := decide_eq_false (by omega)
                  have d2 : decide ((W.length : Int) ≤ (c : Int)) = false := decide_eq_false (by omega)
                  have hw2 := w64s c (by have := HCB.out; omega)
                  clear HYY HYN HYA how
                  go_upto_region 25 with (fail)
                  have sw0 : y1.cell? ⟨gW, c * 3, none⟩ = some (.int .u32 t0) := s0
                  go_quiet (fail)
                  go_wp2_with fail
                  go_roundw
                  case rel => exact ⟨k + 1, by go_num, HK.out, by rw [HE.out, hw2], (show Below w7.heap.size w7 (y1.drewN nq) from ⟨HBE.out.os, HBE.out.tape, HBE.out.output, HBE.out.size, HBE.out.block⟩)⟩
                  case measure => have := HK.out; simp [intOf]; omega
              · have hki : ¬ (k : Int) < (B.length : Int) := by omega
                have hkB : B.take k = B := List.take_of_length_le (by omega)
                obtain ⟨k2, hk2⟩ := HPX.out
                have HRM := hid (remove11_yes wr lo b m v6 q6 x.1 k2 (HR7.out.below hB) HH6.out HKX.out hk2)
                have HQL := hid (fun (q2 : List It) (hp : (it q6 k2 :: q2).Perm q6) => show q2.length = W.length from by
                  have h1 := filt_one HR6.out.ids hp
                  rw [((plc_some HR6.out.ids).1 hk2).2] at h1
                  rw [← h1, ← HWB.out, HBD.out]
                  exact (((inOrder_perm q6).filter (neId x.1)).length_eq).symm)
                have HB8 := hid (show Below w.heap.size w wr from HBY.out.trans (HBY2.out.mono HBY.out.size))
                have HB9 := hid (fun (w' : World) (hk : Keeps (Hb b m v6) wr w') => show Below w.heap.size w w' from HB8.out.trans (hk.lo HB8.out.size (fun p hp => Nat.le_trans (Nat.le_trans HBY.out.size HYL.out) (HR6.out.hb p hp))))
                rw [hkB, HWB.out]
                clear hB hk hk2 hkB
                go_wp2_with (first
                  | (go_at_call 11; (with_reducible refine HRM.out.mono ?_); rintro e w9 ⟨rfl, v9, q9, hr9, hh9, hp9, hk9, ho9⟩; have h10 := len11_any w9 lo b m v9 q9 hr9; rw [HQL.out q9 hp9] at h10; have HL9 := hid h10; have HW9 := hid (HB9.out w9 hk9); clear hr9 hh9 hp9 hk9 ho9 h10)
                  | (go_at_call 17; (with_reducible refine HL9.out.mono ?_); rintro e w10 ⟨rfl, rfl⟩)
                  | fail)
                go_ret
                exact ⟨rfl, HW9.out⟩
          | none =>
            rw [hpl] at HHS
            have HPU := hid (push11_yes w4 lo b m v q x HR4.out HHw.out HKX.out hpl (by have := HQ2.out; omega) (Nat.le_of_lt (Nat.lt_of_le_of_lt HR4.out.lob HR4.out.lt)))
            have HPF := hid (fun (q' : List It) (hp : q'.Perm (x :: q)) => show (q'.filter (neId x.1)).Perm (q.filter (neId x.1)) ∧ ∃ k2, plc q' x.1 = some k2 from ⟨by have h1 := hp.filter (neId x.1); rw [filt_cons hpl] at h1; exact h1, by
              have h2 : (plc q' x.1).isSome = true := plc_is (hp.mem_iff.2 (List.mem_cons_self ..))
              exact Option.isSome_iff_exists.1 h2⟩)
            unfold itv at HPU
            clear hpl
            go_upto_region 20 with (first
              | (go_at_call 14; (with_reducible refine HHS.out.mono ?_); rintro e w5 ⟨rfl, rfl⟩)
              | (go_at_call 8; (with_reducible refine HPU.out.mono ?_); rintro e w6 ⟨rfl, v6, q6, hr6, hh6, hp6, hk6, ho6⟩; have HR6 := hid hr6; have HH6 := hid hh6; have HPM := hid (HPF.out q6 hp6).1; have HPX := hid (HPF.out q6 hp6).2; have HB6 := hid (HB5.out w6 hk6); have HW6 := hid (HW5.out w6 hk6); clear hr6 hh6 hp6 hk6 ho6)
              | fail)
            have HWB := hid (show (inOrder q6).filter (neId x.1) = W by rw [HWD.out, HA.out]; exact inOrder_apart HRw.out.ids HR6.out.ids x.1 HPM.out)
            have HLJ := hid (list11_any w6 lo b m v6 q6 HR6.out)
            obtain ⟨B, hB2⟩ : ∃ B, B = inOrder q6 := ⟨_, rfl⟩
            have HBD := hid hB2
            have HBQ := hid (show B.length = q6.length by rw [hB2]; exact inOrder_len q6)
            rw [← hB2] at HWB HLJ
            rw [← HBQ.out] at HLJ
            have HB61 := hid (show B.length ≤ 10000 by rw [HBQ.out]; exact HR6.out.len)
            clear hB2
            go_wp2_with (first | (go_at_call 16; (with_reducible refine HLJ.out.mono ?_); rintro e w7 ⟨vB, rfl, hrB, hbB⟩; obtain ⟨aB, cB, rfl, hnB, hcB⟩ := owns_slice hrB; have HRB := hid hrB; have HR7 := hid (HR6.out.below hbB); have HB7 := hid (HB6.out.trans (hbB.mono HB6.out.size)); have HW7 := hid (owns_below HW6.out hbB); clear hrB hbB) | fail)
            go_loopw [11, 60] (fun s i wr => ∃ (k : Nat), i = .int .i64 k ∧ k ≤ B.length ∧ s = .int .i64 (((B.take k).filter (neId x.1)).length : Nat) ∧ Below w7.heap.size w7 wr) (fun _ i _ => B.length - (intOf i).toNat)
            case atStart => exact ⟨0, rfl, Nat.zero_le _, rfl, Below.refl _ _⟩
            case round =>
              obtain ⟨k, rfl, hk, rfl, hB⟩ := hrel
              have HB := hid hB
              have hBy := HB7.out.trans (hB.mono HB7.out.size)
              obtain ⟨e0, -, -⟩ := HXC.out wr hBy
              have HBY2 := hid hBy
              clear hBy
              by_cases hlt : k < B.length
              · have ho := owns_below HRB.out hB
                obtain ⟨gB, rfl⟩ : ∃ g, aB = some ⟨g, 0, none⟩ := by
                  rcases owns_shape HRB.out with ⟨_, e⟩ | ⟨g, cap, e, _⟩
                  · omega
                  · simp only [Value.slice.injEq] at e
                    exact ⟨g, e.1⟩
                obtain ⟨z0, z1, z2, -, -, -⟩ := own_item ho hlt
                obtain ⟨c, hc⟩ : ∃ c, c = ((B.take k).filter (neId x.1)).length := ⟨_, rfl⟩
                have HYN := hid (fun (he : (it B k).1 = x.1) => show ((B.take (k + 1)).filter (neId x.1)).length = c by rw [hc, filt_take_no hlt (by unfold neId; simp [he])])
                have HYY := hid (fun (he : ¬ (it B k).1 = x.1) => show ((B.take (k + 1)).filter (neId x.1)).length = c + 1 by rw [hc, filt_take_yes hlt (by unfold neId; simp [he]), List.length_append]; rfl)
                have HYA := hid (fun (he : ¬ (it B k).1 = x.1) => show c < W.length ∧ it W c = it B k by rw [hc, ← HWB.out]; exact filt_at hlt (by unfold neId; simp [he]))
                obtain ⟨y, hy⟩ : ∃ y, y = it B k := ⟨_, rfl⟩
                rw [← hy] at HYY HYN HYA z0 z1 z2
                rw [← hc]
                obtain ⟨t0, t1, t2⟩ := y
                dsimp only at HYY HYN HYA z0 z1 z2
                have hki : (k : Int) < (B.length : Int) := by omega
                have hw1 := w64s k (by omega)
                obtain ⟨y1, hy1⟩ : ∃ y, y = wr.alloc (.cells #[.int .u32 t0, .int .u8 t1, .int .u32 t2] 32) := ⟨_, rfl⟩
                have hby : Below wr.heap.size wr y1 := by rw [hy1]; exact (Below.refl _ _).alloc (Nat.le_refl _) _
                have hbx : y1.heap[wr.heap.size]? = some (.cells #[.int .u32 t0, .int .u8 t1, .int .u32 t2] 32 (0, 0)) := by rw [hy1]; exact heap_alloc_new wr _
                have q0 : y1.cell? ⟨wr.heap.size, 0, none⟩ = some (.int .u32 t0) := (cell_of_row _ _ _ _ _ _ hbx).trans rfl
                have q1 : y1.cell? ⟨wr.heap.size, 1, none⟩ = some (.int .u8 t1) := (cell_of_row _ _ _ _ _ _ hbx).trans rfl
                have q2 : y1.cell? ⟨wr.heap.size, 2, none⟩ = some (.int .u32 t2) := (cell_of_row _ _ _ _ _ _ hbx).trans rfl
                have HY1 := hid hby
                have HK := hid hlt
                have HCB := hid (show c ≤ 10000 by rw [hc]; exact filt_small HB61.out k)
                have HBE := hid (show Below w7.heap.size w7 y1 from hB.trans (hby.mono hB.size))
                obtain ⟨pt, hpt⟩ : ∃ p, p = wr.heap.size := ⟨_, rfl⟩
                rw [← hpt] at q0 q1 q2
                have e0' : y1.cell? ⟨px, 0, none⟩ = some (.int .u32 x.1) := (HXC.out y1 (HBY2.out.trans (hby.mono HBY2.out.size))).1
                clear hby hbx ho hy hB hlt hc
                go_upto_region 24 with (fail)
                rw [← hy1, ← hpt]
                clear hy1 z0 z1 z2 hpt e0
                by_cases he : t0 = x.1
                · have HE := hid (HYN.out he)
                  clear HYY HYN HYA
                  go_wp2_with fail
                  go_roundw
                  case rel => exact ⟨k + 1, by go_num, HK.out, by rw [HE.out], HBE.out⟩
                  case measure => have := HK.out; simp [intOf]; omega
                · have HE := hid (HYY.out he)
                  obtain ⟨hcW, hcI⟩ := HYA.out he
                  have how := owns_below HW7.out HBE.out
                  obtain ⟨gW, rfl⟩ : ∃ g, aW = some ⟨g, 0, none⟩ := by
                    rcases owns_shape HW7.out with ⟨_, e⟩ | ⟨g, cap, e, _⟩
                    · omega
                    · simp only [Value.slice.injEq] at e
                      exact ⟨g, e.1⟩
                  obtain ⟨s0, s1, s2, -, -, -⟩ := own_item how hcW
                  rw [hcI] at s0 s1 s2
                  dsimp only at s0 s1 s2
                  have hcw : (c : Int) < (W.length : Int) := by omega
                  have hcw' : ¬ (W.length : Int) ≤ (c : Int) := by omega
                  have d1 : decide ((c : Int) ≥ (W.length : Int)) = false := decide_eq_false (by omega)
                  have d2 : decide ((W.length : Int) ≤ (c : Int)) = false := decide_eq_false (by omega)
                  have hw2 := w64s c (by have := HCB.out; omega)
                  clear HYY HYN HYA how
                  go_upto_region 25 with (fail)
                  have sw0 : y1.cell? ⟨gW, c * 3, none⟩ = some (.int .u32 t0) := s0
                  go_quiet (fail)
                  go_wp2_with fail
                  go_roundw
                  case rel => exact ⟨k + 1, by go_num, HK.out, by rw [HE.out, hw2], (show Below w7.heap.size w7 (y1.drewN nq) from ⟨HBE.out.os, HBE.out.tape, HBE.out.output, HBE.out.size, HBE.out.block⟩)⟩
                  case measure => have := HK.out; simp [intOf]; omega
              · have hki : ¬ (k : Int) < (B.length : Int) := by omega
                have hkB : B.take k = B := List.take_of_length_le (by omega)
                obtain ⟨k2, hk2⟩ := HPX.out
                have HRM := hid (remove11_yes wr lo b m v6 q6 x.1 k2 (HR7.out.below hB) HH6.out HKX.out hk2)
                have HQL := hid (fun (q2 : List It) (hp : (it q6 k2 :: q2).Perm q6) => show q2.length = W.length from by
                  have h1 := filt_one HR6.out.ids hp
                  rw [((plc_some HR6.out.ids).1 hk2).2] at h1
                  rw [← h1, ← HWB.out, HBD.out]
                  exact (((inOrder_perm q6).filter (neId x.1)).length_eq).symm)
                have HB8 := hid (show Below w.heap.size w wr from HBY.out.trans (HBY2.out.mono HBY.out.size))
                have HB9 := hid (fun (w' : World) (hk : Keeps (Hb b m v6) wr w') => show Below w.heap.size w w' from HB8.out.trans (hk.lo HB8.out.size (fun p hp => Nat.le_trans (Nat.le_trans HBY.out.size HYL.out) (HR6.out.hb p hp))))
                rw [hkB, HWB.out]
                clear hB hk hk2 hkB
                go_wp2_with (first
                  | (go_at_call 11; (with_reducible refine HRM.out.mono ?_); rintro e w9 ⟨rfl, v9, q9, hr9, hh9, hp9, hk9, ho9⟩; have h10 := len11_any w9 lo b m v9 q9 hr9; rw [HQL.out q9 hp9] at h10; have HL9 := hid h10; have HW9 := hid (HB9.out w9 hk9); clear hr9 hh9 hp9 hk9 ho9 h10)
                  | (go_at_call 17; (with_reducible refine HL9.out.mono ?_); rintro e w10 ⟨rfl, rfl⟩)
                  | fail)
                go_ret
                exact ⟨rfl, HW9.out⟩

/-! ### THE ROW's STEP -/
set_option maxRecDepth 100000 in
theorem lifted (os : Os) (started : os.Started) (H : Type) (enc : TypeId × Value → H) :
    ReturnsInHanded {} Try.checked os 4 .any (Rows.prioApartSpec.pre6 enc Try.prog Try.f4 Rows.prioApartRow.domain false) (Rows.prioApartSpec.post enc Try.prog Try.f4 false true false false) := by
  refine returnsInHanded_of_change (C := Try.checked) own started (by kernel_rfl) Try.func4
    (ChangeSpec.witness6 (enc := enc) (C := Try.checked) false ⟨#[], #[.slice none 0 0, .agg #[.int .u32 0, .int .u8 0, .int .u32 0]], []⟩ 8 (by kernel_rfl) (by kernel_rfl) (by kernel_rfl) (by kernel_rfl)) ?_
  intro W base args ds gs before hval0 hW hcnd _
  have hval : ∀ (j : Nat) t v, Try.f4.params[j]? = some t → args[j]? = some v → Value.okWide Try.prog W .any base t v := hval0
  have hW' := hW
  obtain ⟨p, q, hA0, hV, rfl, hfz, hnd⟩ := hW
  have hA : DataW.TrodAll enc Try.prog W 0 (fun _ => true) true Try.f4.params.toList args.toList ds p := hA0
  rw [Try.params4] at hA hval
  obtain ⟨v0, vs0, d0, ds0, p0, q0, hargs, rfl, rfl, h0, r0⟩ := trodAll_cons hA
  obtain ⟨v1, vs1, d1, ds1, p1, q1, rfl, rfl, rfl, h1, r1⟩ := trodAll_cons r0
  obtain ⟨rfl, rfl, rfl⟩ := trodAll_nil r1
  obtain rfl : args = #[v0, v1] := by cases args; simp_all
  obtain ⟨rfl, rfl⟩ := trodVars_none hV
  have k0 := h0
  have lt0 : ∀ x ∈ p0, x.block < W.heap.size := by obtain ⟨m, hm⟩ := k0; exact DataW.trod_lt m _ _ _ hm
  have k1 := h1
  have lt1 : ∀ x ∈ p1, x.block < W.heap.size := by obtain ⟨m, hm⟩ := k1; exact DataW.trod_lt m _ _ _ hm
  obtain ⟨a0, len0, cap0, rfl⟩ := okWide_slice Try.underlying26 (hval 0 26 v0 rfl rfl)
  have w0 : IsItems W a0 len0 cap0 := isItems_of h0
  have w1 : IsItem W v1 := isItem_of (hval 1 29 v1 rfl rfl) h1
  clear hA0 hval0
  refine (walk a0 len0 cap0 v1 W w0 w1).mono fun e W' ⟨he, bel⟩ => ?_
  subst he
  exact ⟨_, rfl, _, _, _, [], _, [], hW', trodAll_mk1 (shut_bool Try.underlying4 _), (trodAll_cons_mk (Below.trod laidOut (by kernel_rfl) (of_decide_eq_true (by kernel_rfl)) k0 bel lt0) (trodAll_cons_mk (Below.trod laidOut (by kernel_rfl) (of_decide_eq_true (by kernel_rfl)) k1 bel lt1) trodAll_mk0)), rfl, bel.frame _, fun h => by cases h⟩

theorem over : Rows.prioApartRow.holds Try.pinned (OpenSpec.ofChange Rows.prioApartSpec) :=
  OpenClaim.holds_of_wide 4 Try.f4 rfl rfl rfl rfl rfl rfl rfl ⟨rfl, rfl, rfl, rfl, rfl⟩ rfl rfl rfl rfl rfl (by kernel_rfl) Try.func4 (by kernel_rfl)
    (of_decide_eq_true (by kernel_rfl)) (by unfold Func.isWrapper; first | (rw [if_pos (by decide +kernel)]; kernel_rfl) | (rw [if_neg (by decide +kernel)]; exact ⟨rfl, rfl⟩))
    (fun os started H enc _ => lifted os started H enc)

/-- THE STATEMENT -/
theorem prioApart_holds : Rows.PrioApartSaid := over
#print axioms prioApart_holds
end Go.Proofs.Ytdbjakohgdpdeaa.prioApart
