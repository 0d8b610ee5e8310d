/-
  slices.Sort at []uint32: pdqsortOrdered (its loop and its recursion), Sort.
-/
import Derived.Test.YtdongghjchnpbaaSrtH
import Derived.Test.YtdongghjchnpbaaSrtF
import Derived.Test.YtdongghjchnpbaaSrtE
import Derived.Sort.Walk13a
import Derived.Sort.LotB
import Derived.Sort.LotD4
import Derived.Deep.Cut
import Derived.LoopTactic
import Derived.RegionTactic
import Derived.Deep.QuietTactic
import Derived.BigQuiet
import Derived.BigRegion
namespace Go.Proofs.Ytdongghjchnpbaa
open Go.RowKit
set_option linter.unusedVariables false

theorem ltN_swo : Sort.SWO ltN := ⟨fun x => by simp [ltN], fun x y z h k => by simp only [ltN, decide_eq_true_eq] at *; omega, fun x y z h k => by simp only [ltN, decide_eq_false_iff_not] at *; omega⟩

theorem Made.below {w w1 w2 : World} {g off : Nat} {pre tl : List Value} {d : Array Nat} (h : Made w g off pre tl d w1) (hB : Below w1.heap.size w1 w2) : Made w g off pre tl d w2 :=
  ⟨h.arr.block ((Keeps.of_below (S := fun _ => False) hB (fun i h1 h2 => by omega)).block g h.arr.lt id), h.keeps.trans (Keeps.of_below hB (fun i h1 h2 => by omega))⟩

/-- A round's values, and what holds of them. -/
structure RdF (dk : Array Nat) (p q l : Nat) (wb wp : Bool) (FF : Array Nat) (d1 : Array Nat) (l1 cj : Nat) (ch : Sort.Hint) (d2 : Array Nat) (pv : Nat) (hint : Sort.Hint) (e : Array Nat) (fin : Bool) : Prop where
  s1 : d1.size = dk.size
  s2 : d2.size = dk.size
  s3 : e.size = dk.size
  cjr : p ≤ cj ∧ cj < q
  pvr : p ≤ pv ∧ pv < q
  le : l1 ≤ l
  f : wb = false → d1 = Sort.breakPatterns dk p q ∧ l1 = l - 1
  t : wb = true → d1 = dk ∧ l1 = l
  c : Sort.choosePivot ltN d1 p q = (cj, ch)
  dec : ch = .decreasing → d2 = Sort.reverseRange d1 p q ∧ pv = (q - 1) - (cj - p) ∧ hint = .increasing
  nod : ch ≠ .decreasing → d2 = d1 ∧ pv = cj ∧ hint = ch
  yes : (wb && wp && decide (hint = .increasing)) = true → Sort.partialInsertionSort ltN d2 p q = (e, fin)
  no : (wb && wp && decide (hint = .increasing)) = false → e = d2 ∧ fin = false
  done : fin = true → e = FF
  eq : fin = false → (decide (p > 0) && !ltN e[p - 1]! e[pv]!) = true → ∀ mid d4, Sort.partitionEqual ltN e p q pv = (mid, d4) → p < mid ∧ mid ≤ q ∧ d4.size = dk.size ∧ Sort.Below ltN mid q d4 ∧ Sort.pdq ltN d4 mid q l1 wb wp = FF
  part : fin = false → (decide (p > 0) && !ltN e[p - 1]! e[pv]!) = false → ∀ mid ap d4, Sort.partition ltN e p q pv = (mid, ap, d4) → p ≤ mid ∧ mid < q ∧ d4.size = dk.size ∧ Sort.Below ltN p mid d4 ∧ Sort.Below ltN (mid + 1) q d4 ∧
    (mid - p < q - mid → ∀ L, L = Sort.pdq ltN d4 p mid l1 true true → L.size = dk.size ∧ Sort.Below ltN (mid + 1) q L ∧ Sort.pdq ltN L (mid + 1) q l1 (decide (mid - p ≥ (q - p) / 8)) ap = FF) ∧
    (¬ mid - p < q - mid → ∀ L, L = Sort.pdq ltN d4 (mid + 1) q l1 true true → L.size = dk.size ∧ Sort.Below ltN p mid L ∧ Sort.pdq ltN L p mid l1 (decide (q - mid ≥ (q - p) / 8)) ap = FF)

theorem rd_all (dk : Array Nat) (p q l : Nat) (wb wp : Bool) (h12 : ¬ q - p ≤ 12) (hl : ¬ l = 0) (hq : q ≤ dk.size) (hB : Sort.Below ltN p q dk) :
    ∃ d1 l1 cj ch d2 pv hint e fin, RdF dk p q l wb wp (Sort.pdq ltN dk p q l wb wp) d1 l1 cj ch d2 pv hint e fin := by
  obtain ⟨s1, B1, hc1, s2, B2, hpv, s3, B3⟩ := Sort.rd_facts (limit := l) (wb := wb) (wp := wp) ltN_swo Sort.partialInsertionSort_holds Sort.reverseRange_holds (show p < q by omega) hq hB
  have hle := Sort.rd_lim_le (lt := ltN) (d := dk) (a := p) (b := q) (limit := l) (wb := wb) (wp := wp)
  have hdone := fun k => Sort.pdq_done (lt := ltN) (d := dk) (a := p) (b := q) (limit := l) (wb := wb) (wp := wp) h12 hl k
  have heq := fun k1 k2 k3 => Sort.pdq_eq (lt := ltN) (d := dk) (a := p) (b := q) (limit := l) (wb := wb) (wp := wp) h12 hl k1 k2 k3
  have hleft := fun k1 k2 k3 k4 => Sort.pdq_left (lt := ltN) (d := dk) (a := p) (b := q) (limit := l) (wb := wb) (wp := wp) h12 hl k1 k2 k3 k4
  have hright := fun k1 k2 k3 k4 => Sort.pdq_right (lt := ltN) (d := dk) (a := p) (b := q) (limit := l) (wb := wb) (wp := wp) h12 hl k1 k2 k3 k4
  have hf : wb = false → (Sort.rd ltN dk p q l wb wp).d1 = Sort.breakPatterns dk p q ∧ (Sort.rd ltN dk p q l wb wp).lim = l - 1 := by rintro rfl; exact Sort.rd_false
  have ht : wb = true → (Sort.rd ltN dk p q l wb wp).d1 = dk ∧ (Sort.rd ltN dk p q l wb wp).lim = l := by rintro rfl; exact Sort.rd_true
  have hc := Sort.rd_c (lt := ltN) (d := dk) (a := p) (b := q) (limit := l) (wb := wb) (wp := wp)
  have hdec := fun k => Sort.rd_dec (lt := ltN) (d := dk) (a := p) (b := q) (limit := l) (wb := wb) (wp := wp) k
  have hnod := fun k => Sort.rd_not (lt := ltN) (d := dk) (a := p) (b := q) (limit := l) (wb := wb) (wp := wp) k
  have hyes := fun k => Sort.rd_pi_yes (lt := ltN) (d := dk) (a := p) (b := q) (limit := l) (wb := wb) (wp := wp) k
  have hno := fun k => Sort.rd_pi_no (lt := ltN) (d := dk) (a := p) (b := q) (limit := l) (wb := wb) (wp := wp) k
  generalize Sort.rd ltN dk p q l wb wp = r at *
  refine ⟨r.d1, r.lim, r.c.1, r.c.2, r.d2, r.pivot, r.hint, r.pi.1, r.pi.2, s1, s2, s3, hc1, hpv, hle, hf, ht, hc.symm, hdec, hnod, fun k => (hyes k).symm, fun k => ?_, fun k => (hdone k).symm, ?_, ?_⟩
  · rw [hno k]; exact ⟨rfl, rfl⟩
  · intro k1 k2 mid d4 hx
    simp only [Bool.and_eq_true, decide_eq_true_eq, Bool.not_eq_true'] at k2
    obtain ⟨r1, r2, r3, r4, _⟩ := Sort.round_eq ltN_swo (Sort.partitionEqual_holds ltN) k2.1 hpv.1 hpv.2 (show q ≤ r.pi.1.size by omega) B3 k2.2 hx
    refine ⟨r1, r2, r3.trans s3, r4, ?_⟩
    rw [heq k1 (by simp only [Bool.and_eq_true, decide_eq_true_eq, Bool.not_eq_true']; exact k2) (by rw [hx]; exact ⟨r1, r2⟩), hx]
  · intro k1 k2 mid ap d4 hx
    obtain ⟨r1, r2, r3, r4, r5, r6, r7⟩ := Sort.round_part ltN_swo (Sort.partition_holds ltN) hpv.1 hpv.2 (show q ≤ r.pi.1.size by omega) B3 hx
    refine ⟨r1, r2, r3.trans s3, r4, r5, ?_, ?_⟩
    · rintro k4 L rfl
      obtain ⟨pL, sL⟩ := Sort.pdq_sorts ltN ltN_swo d4 p mid r.lim true true r1 (by omega) r4
      exact ⟨by rw [pL.1, r3, s3], (r6 _ pL sL).1, by rw [hleft k1 k2 (by rw [hx]; exact ⟨r1, r2⟩) (by rw [hx]; exact k4), hx]⟩
    · rintro k4 L rfl
      obtain ⟨pL, sL⟩ := Sort.pdq_sorts ltN ltN_swo d4 (mid + 1) q r.lim true true (by omega) (by omega) r5
      exact ⟨by rw [pL.1, r3, s3], (r7 _ pL sL).1, by rw [hright k1 k2 (by rw [hx]; exact ⟨r1, r2⟩) (by rw [hx]; exact k4), hx]⟩

theorem hintV_code (h : Sort.Hint) : hintV h = .int .i64 (Sort.hintCode h) := by cases h <;> rfl

set_option maxHeartbeats 8000000 in
set_option maxRecDepth 1000000 in
theorem pdq_any : ∀ (N : Nat) (w : World) (g off n cap : Nat) (pre tl : List Value) (d : Array Nat) (a b lim : Nat), b - a < N → ArrAt w g off pre tl d → d.size ≤ n → a ≤ b → b ≤ d.size → n ≤ 1000000000000 → lim ≤ 1000000000000 → Sort.Below ltN a b d →
    Calls Try.prog 73 #[.slice (some ⟨g, off, none⟩) n cap, .int .i64 a, .int .i64 b, .int .i64 lim] w fun e w' => (∃ u, e = .returned u) ∧ Made w g off pre tl (Sort.pdq ltN d a b lim true true) w' := by
  intro N
  induction N with
  | zero => intro w g off n cap pre tl d a b lim h; omega
  | succ N ih =>
    intro w g off n cap pre tl d a b lim hN h hn hab hb hm hl hBel
    obtain ⟨FF, hFF⟩ : ∃ FF, FF = Sort.pdq ltN d a b lim true true := ⟨_, rfl⟩
    rw [← hFF]
    have HF0 := hid hFF
    have HM0 := hid (Made.refl h)
    have HBE := hid hBel
    have HAB := hid (show a ≤ b ∧ b ≤ d.size ∧ b - a < N + 1 from ⟨hab, hb, hN⟩)
    have HSN := hid hn
    have HNB := hid hm
    have HLB := hid hl
    clear hFF h hBel hab hb hn hN hm hl
    go_enter Try.func73, Try.ntmps73
    go_wp2
    go_loopw [1, 2, 3, 8, 9] (fun s1 s2 s3 s8 s9 wr => ∃ (p q l : Nat) (wb wp : Bool) (dk : Array Nat), s1 = .int .i64 p ∧ s2 = .int .i64 q ∧ s3 = .int .i64 l ∧ s8 = .bool wb ∧ s9 = .bool wp ∧ p ≤ q ∧ q ≤ d.size ∧ q - p ≤ b - a ∧ l ≤ lim ∧ dk.size = d.size ∧ Sort.Below ltN p q dk ∧ Made w g off pre tl dk wr ∧ Sort.pdq ltN dk p q l wb wp = FF) (fun s1 s2 _ _ _ _ => (intOf s2).toNat - (intOf s1).toNat)
    case atStart => exact ⟨a, b, lim, true, true, d, rfl, rfl, rfl, rfl, rfl, HAB.out.1, HAB.out.2.1, Nat.le_refl _, Nat.le_refl _, rfl, HBE.out, HM0.out, HF0.out.symm⟩
    case round =>
      obtain ⟨p, q, l, wb, wp, dk, rfl, rfl, rfl, rfl, rfl, hpq, hqd, hqp, hll, hsz, hBk, hM, hF⟩ := hrel
      have HPQ := hid (show p ≤ q ∧ q ≤ d.size ∧ q - p ≤ b - a ∧ b - a < N + 1 from ⟨hpq, hqd, hqp, HAB.out.2.2⟩)
      have HSZ := hid hsz
      have HBK := hid hBk
      have HM := hid hM
      have HF := hid hF
      have HLL0 := hid hll
      have pb : (p : Int) ≤ 1000000000000 := by have := HNB.out; have := HSN.out; omega
      have qb : (q : Int) ≤ 1000000000000 := by have := HNB.out; have := HSN.out; omega
      have lb : (l : Int) ≤ 1000000000000 := by have := HLB.out; omega
      obtain ⟨len, hlen⟩ : ∃ len, len = q - p := ⟨_, rfl⟩
      have eL : (q : Int) - (p : Int) = (len : Int) := by omega
      have lenb : (len : Int) ≤ 1000000000000 := by omega
      have HLE := hid hlen
      clear hpq hqd hqp hsz hBk hM hF hll hlen
      by_cases h12 : q - p ≤ 12
      · have i12 : (len : Int) ≤ 12 := by have := HLE.out; omega
        have HI := hid (show Sort.insertionSort ltN dk p q = FF by rw [← HF.out, Sort.pdq_small h12])
        clear h12
        go_wp2_with fail
        refine (insertion_any _ g off n cap pre tl dk p q HM.out.arr (by have := HPQ.out; have := HSN.out; have := HSZ.out; omega) HPQ.out.1 (by have := HPQ.out; have := HSN.out; have := HSZ.out; omega) (by have := HNB.out; omega)).mono ?_
        rintro e' w1 ⟨⟨u, rfl⟩, hM1⟩
        rw [HI.out] at hM1
        have HM1 := hid (HM.out.trans hM1)
        clear hM1
        go_wp2_with fail
        refine bodyPost_ret (results_none rfl _ _ _) rfl ?_
        exact ⟨⟨_, rfl⟩, HM1.out⟩
      · have i12 : ¬ (len : Int) ≤ 12 := by have := HLE.out; omega
        by_cases hl0 : l = 0
        · have HI := hid (show Sort.heapSort ltN dk p q = FF by rw [← HF.out, Sort.pdq_heap h12 hl0])
          have H12 := hid h12
          subst hl0
          clear h12
          go_wp2_with fail
          refine (heap_any _ g off n cap pre tl dk p q HM.out.arr (by have := HPQ.out; have := HSN.out; have := HSZ.out; omega) (by have := H12.out; omega) (by have := HPQ.out; have := HSN.out; have := HSZ.out; omega) HNB.out).mono ?_
          rintro e' w1 ⟨⟨u, rfl⟩, hM1⟩
          rw [HI.out] at hM1
          have HM1 := hid (HM.out.trans hM1)
          clear hM1
          go_wp2_with fail
          refine bodyPost_ret (results_none rfl _ _ _) rfl ?_
          exact ⟨⟨_, rfl⟩, HM1.out⟩
        · have il0 : ¬ (l : Int) = 0 := by omega
          obtain ⟨d1, l1, cj, ch, d2, pv, hint, e, fin, hX⟩ := rd_all dk p q l wb wp h12 hl0 (by have := HPQ.out; have := HSN.out; have := HSZ.out; omega) HBK.out
          rw [HF.out] at hX
          have HX := hid hX
          have H12 := hid (show p + 12 < q ∧ l ≠ 0 from ⟨by omega, hl0⟩)
          have pvb : (pv : Int) ≤ 1000000000000 := by have := HX.out.pvr; omega
          have cjb : (cj : Int) ≤ 1000000000000 := by have := HX.out.cjr; omega
          have l1b : (l1 : Int) ≤ 1000000000000 := by have := HX.out.le; omega
          clear hX h12 hl0 HF HBK
          go_upto_if 35 with (fail)
          go_cut [3] from 19 to 133 (fun s3 wx => s3 = .int .i64 l1 ∧ Made w g off pre tl d1 wx)
          case first =>
            cases wb with
            | false =>
              obtain ⟨x1, x2⟩ := HX.out.f rfl
              have el : (l : Int) - 1 = (l1 : Int) := by have := H12.out.2; omega
              have HX1 := hid x1
              clear x1 x2
              go_wp2_with fail
              refine (break_any _ g off n cap pre tl dk p q HM.out.arr (by have := HPQ.out; have := HSN.out; have := HSZ.out; omega) H12.out.1 (by have := HPQ.out; have := HSN.out; have := HSZ.out; omega) HNB.out).mono ?_
              rintro e' w1 ⟨⟨u, rfl⟩, hM1⟩
              rw [← HX1.out] at hM1
              have HM1 := hid (HM.out.trans hM1)
              clear hM1
              go_wp2_with fail
              go_meet
              case rel => exact ⟨rfl, HM1.out⟩
            | true =>
              obtain ⟨x1, x2⟩ := HX.out.t rfl
              have HX1 := hid x1
              have HX2 := hid x2
              clear x1 x2
              go_wp2_with fail
              go_meet
              case rel => exact ⟨by rw [HX2.out], by rw [HX1.out]; exact HM.out⟩
          case rest =>
            obtain ⟨rfl, hM1⟩ := hcut
            have HM1 := hid hM1
            clear hM1
            go_upto_if 50 with (go_at_call 88; refine (choose_any _ g off n cap pre tl d1 p q HM1.out.arr (by have := HX.out.s1; have := HPQ.out; have := HSN.out; have := HSZ.out; omega) H12.out.1 (by have := HX.out.s1; have := HPQ.out; have := HSN.out; have := HSZ.out; omega) HNB.out).mono ?_; rw [HX.out.c]; rintro e' w2 ⟨rfl, hB2⟩; rw [hintV_code])
            have HM2 := hid (HM1.out.below hB2)
            clear hB2
            go_cut [11, 12] from 19 to 133 (fun s11 s12 wx => s11 = .int .i64 pv ∧ s12 = .int .i64 (Sort.hintCode hint) ∧ Made w g off pre tl d2 wx)
            case first =>
              by_cases hh : ch = .decreasing
              · have hcode : Sort.hintCode ch = 2 := by rw [hh]; rfl
                obtain ⟨x1, x2, x3⟩ := HX.out.dec hh
                obtain ⟨q1, hq1⟩ : ∃ q1, q1 = q - 1 := ⟨_, rfl⟩
                obtain ⟨cp, hcp⟩ : ∃ cp, cp = cj - p := ⟨_, rfl⟩
                have e1 : (q : Int) - 1 = (q1 : Int) := by have := H12.out; omega
                have e2 : (cj : Int) - (p : Int) = (cp : Int) := by have := HX.out.cjr; omega
                have e3 : (q1 : Int) - (cp : Int) = (pv : Int) := by have := HX.out.cjr; omega
                have cpb : (cp : Int) ≤ 1000000000000 := by omega
                have q1b : (q1 : Int) ≤ 1000000000000 := by omega
                have HX1 := hid x1
                have HX3 := hid x3
                clear x1 x2 x3 hq1 hcp hh
                go_wp2_with fail
                refine (reverse_any _ g off n cap pre tl d1 p q HM2.out.arr (by have := HX.out.s1; have := HPQ.out; have := HSN.out; have := HSZ.out; omega) (by have := H12.out; omega) (by have := HX.out.s1; have := HPQ.out; have := HSN.out; have := HSZ.out; omega) (by have := HNB.out; omega)).mono ?_
                rintro e' w3 ⟨⟨u, rfl⟩, hM3⟩
                rw [← HX1.out] at hM3
                have HM3 := hid (HM2.out.trans hM3)
                clear hM3
                go_wp2_with fail
                go_meet
                case rel => exact ⟨rfl, by rw [HX3.out]; rfl, HM3.out⟩
              · have hcode : ¬ Sort.hintCode ch = 2 := by intro k; apply hh; cases ch <;> simp [Sort.hintCode] at k ⊢
                obtain ⟨x1, x2, x3⟩ := HX.out.nod hh
                have HX1 := hid x1
                have HX2 := hid x2
                have HX3 := hid x3
                clear x1 x2 x3 hh
                go_wp2_with fail
                go_meet
                case rel => exact ⟨by rw [HX2.out], by rw [HX3.out], by rw [HX1.out]; exact HM2.out⟩
            case rest =>
              obtain ⟨rfl, rfl, hM3⟩ := hcut
              have HM3 := hid hM3
              clear hM3
              go_upto_region 15 with (fail)
              go_cut [12, 68] from 19 to 133 (fun s12 s68 wx => s12 = .int .i64 (Sort.hintCode hint) ∧ s68 = .bool (wb && wp && decide (hint = .increasing)) ∧ Made w g off pre tl d2 wx)
              case first =>
                cases wb <;> cases wp <;> cases hint <;>
                  (simp only [Sort.hintCode]
                   go_wp2_with fail
                   go_meet
                   case rel => exact ⟨rfl, rfl, HM3.out⟩)
              case rest =>
                obtain ⟨rfl, rfl, hM4⟩ := hcut
                have HM4 := hid hM4
                clear hM4
                go_upto_if 68 with (fail)
                go_cut [] from 19 to 133 (fun wx => fin = false ∧ Made w g off pre tl e wx)
                case first =>
                  cases h68 : (wb && wp && decide (hint = .increasing)) with
                  | false =>
                    obtain ⟨x1, x2⟩ := HX.out.no h68
                    have HX1 := hid x1
                    have HX2 := hid x2
                    clear x1 x2
                    go_wp2_with fail
                    go_meet
                    case rel => exact ⟨HX2.out, by rw [HX1.out]; exact HM4.out⟩
                  | true =>
                    have HY := hid (HX.out.yes h68)
                    have HDN := hid (HX.out.done)
                    go_wp2_with fail
                    refine (partial_any _ g off n cap pre tl d2 p q HM4.out.arr (by have := HX.out.s2; have := HPQ.out; have := HSN.out; have := HSZ.out; omega) H12.out.1 (by have := HX.out.s2; have := HPQ.out; have := HSN.out; have := HSZ.out; omega) HNB.out).mono ?_
                    rw [HY.out]
                    rintro e' w4 ⟨rfl, hM5⟩
                    have HM5 := hid (HM4.out.trans hM5)
                    clear hM5
                    cases hfin : fin with
                    | false =>
                      go_wp2_with fail
                      go_meet
                      case rel => first | exact ⟨hfin, HM5.out⟩ | exact ⟨rfl, HM5.out⟩
                    | true =>
                      have HDE := hid (HDN.out hfin)
                      go_wp2_with fail
                      refine bodyPost_ret (results_none rfl _ _ _) rfl ?_
                      exact ⟨⟨_, rfl⟩, by rw [← HDE.out]; exact HM5.out⟩
                case rest =>
                  obtain ⟨hfin, hM5⟩ := hcut
                  have HM5 := hid hM5
                  clear hM5
                  obtain ⟨T, hT⟩ : ∃ T, T = (decide (p > 0) && !ltN e[p - 1]! e[pv]!) := ⟨_, rfl⟩
                  have HEQ := hid (HX.out.eq hfin)
                  have HPA := hid (HX.out.part hfin)
                  rw [← hT] at HEQ HPA
                  have HT := hid hT
                  clear hT hfin
                  go_upto_region 17 with (fail)
                  go_cut [87] from 19 to 133 (fun s87 wx => s87 = .bool T ∧ Made w g off pre tl e wx)
                  case first =>
                    by_cases hp0 : p > 0
                    · skip
                      have dz : decide (p > 0) = true := by simpa using hp0
                      have iz : (p : Int) > 0 := by omega
                      have HE := hid (show T = !ltN e[p - 1]! e[pv]! by rw [HT.out, dz]; rfl)
                      obtain ⟨p0, hp0'⟩ : ∃ p0, p = p0 + 1 := ⟨p - 1, by omega⟩
                      have ep : (p : Int) - 1 = (p0 : Int) := by omega
                      have HE2 := hid (show T = !ltN e[p0]! e[pv]! by rw [HE.out, show p - 1 = p0 by omega])
                      have SPQ := hid (show p0 < e.size ∧ pv < e.size by have := HX.out.s3; have := HX.out.pvr; have := HPQ.out; have := HSN.out; have := HSZ.out; omega)
                      have y1 := HM5.out.arr.cell p0 SPQ.out.1
                      have y2 := HM5.out.arr.cell pv SPQ.out.2
                      have z1 : (p0 : Int) < (n : Int) := by have := SPQ.out; have := HX.out.s3; have := HPQ.out; have := HSN.out; have := HSZ.out; omega
                      have z2 : (pv : Int) < (n : Int) := by have := SPQ.out; have := HX.out.s3; have := HPQ.out; have := HSN.out; have := HSZ.out; omega
                      have z3 : p0 < n := by omega
                      have z4 : pv < n := by omega
                      have np0 : 0 < p := hp0
                      clear hp0 hp0' dz
                      generalize e[p0]! = x at *
                      generalize e[pv]! = y at *
                      go_big_quiet (first | (go_at_call 91; exact Calls.quiet_of_same (less_any _ x y)))
                      go_wp2_with fail
                      go_meet
                      case rel => exact ⟨by rw [HE2.out], HM5.out.drew nq⟩

                    · skip
                      have dz : decide (p > 0) = false := by simpa using hp0
                      have iz : ¬ (p : Int) > 0 := by omega
                      have HE := hid (show T = false by rw [HT.out, dz]; rfl)
                      have izd : decide ((p : Int) > 0) = false := decide_eq_false iz
                      have izn : decide (0 < p) = false := decide_eq_false (by omega)
                      clear hp0 dz iz
                      go_big_quiet (first | (go_at_call 91; fail))
                      go_wp2_with fail
                      go_meet
                      case rel => exact ⟨by rw [HE.out], HM5.out.drew nq⟩

                  case rest =>
                    obtain ⟨rfl, hM6⟩ := hcut
                    have HM6 := hid hM6
                    clear hM6
                    cases T with
                    | true =>
                      obtain ⟨mid, d4, hx⟩ : ∃ mid d4, Sort.partitionEqual ltN e p q pv = (mid, d4) := ⟨_, _, rfl⟩
                      have HPT := hid (HEQ.out rfl mid d4 hx)
                      have HXX := hid hx
                      clear hx
                      have mb : (mid : Int) ≤ 1000000000000 := by have := HPT.out.2.1; omega
                      go_wp2_with fail
                      refine (parteq_any _ g off n cap pre tl e p q pv HM6.out.arr (by have := HX.out.s3; have := HPQ.out; have := HSN.out; have := HSZ.out; omega) (by have := H12.out; omega) (by have := HX.out.s3; have := HPQ.out; have := HSN.out; have := HSZ.out; omega) HX.out.pvr.1 HX.out.pvr.2 HNB.out).mono ?_
                      rw [HXX.out]
                      rintro e' w7 ⟨rfl, hM7⟩
                      have HM7 := hid (HM6.out.trans hM7)
                      clear hM7
                      go_wp2_with fail
                      go_roundw
                      case rel => exact ⟨mid, q, l1, wb, wp, d4, rfl, rfl, rfl, rfl, rfl, HPT.out.2.1, HPQ.out.2.1, by have := HPT.out.1; have := HPQ.out; omega, by have := HX.out.le; have := HLL0.out; omega, by rw [HPT.out.2.2.1]; exact HSZ.out, HPT.out.2.2.2.1, HM7.out, HPT.out.2.2.2.2⟩
                      case measure => have := HPT.out.1; have := HPT.out.2.1; simp [intOf]; omega
                    | false =>
                      obtain ⟨mid, ap, d4, hx⟩ : ∃ mid ap d4, Sort.partition ltN e p q pv = (mid, ap, d4) := ⟨_, _, _, rfl⟩
                      have HPT := hid (HPA.out rfl mid ap d4 hx)
                      have HXX := hid hx
                      clear hx
                      have mb : (mid : Int) ≤ 1000000000000 := by have := HPT.out.2.1; omega
                      obtain ⟨ll, hll⟩ : ∃ ll, ll = mid - p := ⟨_, rfl⟩
                      obtain ⟨rl, hrl⟩ : ∃ rl, rl = q - mid := ⟨_, rfl⟩
                      obtain ⟨o8, ho8⟩ : ∃ o8, o8 = len / 8 := ⟨_, rfl⟩
                      obtain ⟨m1, hm1⟩ : ∃ m1, m1 = mid + 1 := ⟨_, rfl⟩
                      have e1 : (mid : Int) - (p : Int) = (ll : Int) := by have := HPT.out.1; omega
                      have e2 : (q : Int) - (mid : Int) = (rl : Int) := by have := HPT.out.2.1; omega
                      have e3 : (len : Int) / 8 = (o8 : Int) := by omega
                      have e4 : (len : Int).tdiv 8 = (o8 : Int) := by rw [Int.tdiv_eq_ediv_of_nonneg (by omega)]; exact e3
                      have e5 : (mid : Int) + 1 = (m1 : Int) := by omega
                      have m1b : (m1 : Int) ≤ 1000000000001 := by omega
                      have llb : (ll : Int) ≤ 1000000000000 := by omega
                      have rlb : (rl : Int) ≤ 1000000000000 := by omega
                      have HLR := hid (show ll = mid - p ∧ rl = q - mid ∧ o8 = len / 8 ∧ len = q - p from ⟨hll, hrl, ho8, HLE.out⟩)
                      have HM1 := hid hm1
                      clear hll hrl ho8 hm1
                      go_upto_if 113 with (go_at_call 93; refine (partition_any _ g off n cap pre tl e p q pv HM6.out.arr (by have := HX.out.s3; have := HPQ.out; have := HSN.out; have := HSZ.out; omega) (by have := H12.out; omega) (by have := HX.out.s3; have := HPQ.out; have := HSN.out; have := HSZ.out; omega) HX.out.pvr.1 HX.out.pvr.2 HNB.out).mono ?_; rw [HXX.out]; rintro e' w7 ⟨rfl, hM7⟩)
                      have HM7 := hid (HM6.out.trans hM7)
                      clear hM7
                      by_cases h4 : mid - p < q - mid
                      · skip
                        have ilr : (ll : Int) < (rl : Int) := by have := HLR.out; omega
                        obtain ⟨LL, hLL⟩ : ∃ LL, LL = Sort.pdq ltN d4 p mid l1 true true := ⟨_, rfl⟩
                        obtain ⟨k1, k2, k3⟩ := HPT.out.2.2.2.2.2.1 h4 LL (by rw [hLL])
                        obtain ⟨B, hB⟩ : ∃ B, B = decide (mid - p ≥ (q - p) / 8) := ⟨_, rfl⟩
                        have hb1 : decide ((o8 : Int) ≤ (ll : Int)) = B := by rw [hB]; exact decide_eq_decide.2 ⟨fun _ => by have := HLR.out; omega, fun _ => by have := HLR.out; omega⟩
                        have hb2 : decide (o8 ≤ ll) = B := by rw [hB]; exact decide_eq_decide.2 ⟨fun _ => by have := HLR.out; omega, fun _ => by have := HLR.out; omega⟩
                        rw [← hB] at k3
                        have HK := hid (show LL.size = dk.size ∧ Sort.Below ltN m1 q LL ∧ Sort.pdq ltN LL m1 q l1 B ap = FF from ⟨k1, by rw [HM1.out]; exact k2, by rw [HM1.out]; exact k3⟩)
                        have HLL := hid hLL
                        clear hLL k1 k2 k3 hB h4
                        go_wp2_with fail
                        refine (ih w7 g off n cap pre tl d4 p mid l1 (by have := HPT.out.1; have := HPT.out.2.1; have := HM1.out; have := HLR.out; have := HPQ.out; have := HSN.out; have := HSZ.out; omega) HM7.out.arr (by have := HPT.out.2.2.1; have := HPQ.out; have := HSN.out; have := HSZ.out; omega) (by have := HPT.out.1; have := HPT.out.2.1; have := HM1.out; omega) (by have := HPT.out.2.2.1; have := HPT.out.2.1; have := HM1.out; have := HPQ.out; have := HSN.out; have := HSZ.out; omega) HNB.out (by have := HX.out.le; have := HLL0.out; have := HLB.out; omega) HPT.out.2.2.2.1).mono ?_
                        rintro e' w8 ⟨⟨u, rfl⟩, hM8⟩
                        rw [← HLL.out] at hM8
                        have HM8 := hid (HM7.out.trans hM8)
                        clear hM8
                        go_wp2_with fail
                        go_roundw
                        case rel => exact ⟨m1, q, l1, B, ap, LL, rfl, rfl, rfl, by first | rfl | exact congrArg Value.bool hb1 | exact congrArg Value.bool hb2, rfl, by have := HPT.out.1; have := HPT.out.2.1; have := HM1.out; omega, by have := HPT.out.2.1; have := HPQ.out; have := HSN.out; have := HSZ.out; omega, by have := HPT.out.1; have := HPT.out.2.1; have := HM1.out; have := HPQ.out; have := HSN.out; have := HSZ.out; omega, by have := HX.out.le; have := HLL0.out; omega, by have := HK.out.1; have := HPQ.out; have := HSN.out; have := HSZ.out; omega, HK.out.2.1, HM8.out, HK.out.2.2⟩
                        case measure => have := HPT.out.1; have := HPT.out.2.1; have := HM1.out; simp [intOf]; omega

                      · skip
                        have ilr : ¬ (ll : Int) < (rl : Int) := by have := HLR.out; omega
                        obtain ⟨LL, hLL⟩ : ∃ LL, LL = Sort.pdq ltN d4 m1 q l1 true true := ⟨_, rfl⟩
                        obtain ⟨k1, k2, k3⟩ := HPT.out.2.2.2.2.2.2 h4 LL (by rw [hLL, HM1.out])
                        obtain ⟨B, hB⟩ : ∃ B, B = decide (q - mid ≥ (q - p) / 8) := ⟨_, rfl⟩
                        have hb1 : decide ((o8 : Int) ≤ (rl : Int)) = B := by rw [hB]; exact decide_eq_decide.2 ⟨fun _ => by have := HLR.out; omega, fun _ => by have := HLR.out; omega⟩
                        have hb2 : decide (o8 ≤ rl) = B := by rw [hB]; exact decide_eq_decide.2 ⟨fun _ => by have := HLR.out; omega, fun _ => by have := HLR.out; omega⟩
                        rw [← hB] at k3
                        have HK := hid (show LL.size = dk.size ∧ Sort.Below ltN p mid LL ∧ Sort.pdq ltN LL p mid l1 B ap = FF from ⟨k1, k2, k3⟩)
                        have HLL := hid hLL
                        clear hLL k1 k2 k3 hB h4
                        go_wp2_with fail
                        refine (ih w7 g off n cap pre tl d4 m1 q l1 (by have := HPT.out.1; have := HPT.out.2.1; have := HM1.out; have := HLR.out; have := HPQ.out; have := HSN.out; have := HSZ.out; omega) HM7.out.arr (by have := HPT.out.2.2.1; have := HPQ.out; have := HSN.out; have := HSZ.out; omega) (by have := HPT.out.1; have := HPT.out.2.1; have := HM1.out; omega) (by have := HPT.out.2.2.1; have := HPT.out.2.1; have := HM1.out; have := HPQ.out; have := HSN.out; have := HSZ.out; omega) HNB.out (by have := HX.out.le; have := HLL0.out; have := HLB.out; omega) (by rw [HM1.out]; exact HPT.out.2.2.2.2.1)).mono ?_
                        rintro e' w8 ⟨⟨u, rfl⟩, hM8⟩
                        rw [← HLL.out] at hM8
                        have HM8 := hid (HM7.out.trans hM8)
                        clear hM8
                        go_wp2_with fail
                        go_roundw
                        case rel => exact ⟨p, mid, l1, B, ap, LL, rfl, rfl, rfl, by first | rfl | exact congrArg Value.bool hb1 | exact congrArg Value.bool hb2, rfl, by have := HPT.out.1; have := HPT.out.2.1; have := HM1.out; omega, by have := HPT.out.2.1; have := HPQ.out; have := HSN.out; have := HSZ.out; omega, by have := HPT.out.1; have := HPT.out.2.1; have := HM1.out; have := HPQ.out; have := HSN.out; have := HSZ.out; omega, by have := HX.out.le; have := HLL0.out; omega, by have := HK.out.1; have := HPQ.out; have := HSN.out; have := HSZ.out; omega, HK.out.2.1, HM8.out, HK.out.2.2⟩
                        case measure => have := HPT.out.1; have := HPT.out.2.1; have := HM1.out; simp [intOf]; omega


end Go.Proofs.Ytdongghjchnpbaa
