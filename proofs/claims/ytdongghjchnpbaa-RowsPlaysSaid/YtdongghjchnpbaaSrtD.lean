/-
  slices.Sort at []uint32: medianOrdered, medianAdjacentOrdered, choosePivotOrdered.
-/
import Derived.Test.YtdongghjchnpbaaSrtC
namespace Go.Proofs.Ytdongghjchnpbaa
open Go.RowKit
set_option linter.unusedVariables false

theorem order2_lt {d : Array Nat} {a b c n : Nat} (ha : a < n) (hb : b < n) : (Sort.order2 ltN d a b c).1 < n ∧ (Sort.order2 ltN d a b c).2.1 < n := by
  unfold Sort.order2
  split
  · exact ⟨hb, ha⟩
  · exact ⟨ha, hb⟩
theorem order2_cnt {d : Array Nat} {a b c : Nat} : (Sort.order2 ltN d a b c).2.2 ≤ c + 1 := by
  unfold Sort.order2
  split
  · exact Nat.le_refl _
  · exact Nat.le_succ _

theorem CntAt.arr {w w' : World} {s c g off : Nat} {pre tl : List Value} {d : Array Nat} (h : CntAt w s c w') (ha : ArrAt w g off pre tl d) (hne : g ≠ s) : ArrAt w' g off pre tl d :=
  ha.block (h.keeps.block g ha.lt hne)

theorem median_any (w : World) (g off n cap s k : Nat) (pre tl : List Value) (d : Array Nat) (a b c : Nat) (h : ArrAt w g off pre tl d) (hn : d.size ≤ n) (ha : a < d.size) (hb : b < d.size) (hc : c < d.size) (hm : n ≤ 4611686018427387904) (hk : k < 900)
    (hs : w.heap[s]? = some (.cells #[.int .i64 k] 3 (0, 0))) (hne : g ≠ s) :
    Calls Try.prog 103 #[.slice (some ⟨g, off, none⟩) n cap, .int .i64 a, .int .i64 b, .int .i64 c, .pointer (some ⟨s, 0, none⟩)] w fun e w' => e = .returned (.int .i64 (Sort.median ltN d a b c k).1) ∧ CntAt w s (Sort.median ltN d a b c k).2 w' := by
  have HM := hid (show Sort.median ltN d a b c k = ((Sort.order2 ltN d (Sort.order2 ltN d a b k).1 (Sort.order2 ltN d (Sort.order2 ltN d a b k).2.1 c (Sort.order2 ltN d a b k).2.2).1 (Sort.order2 ltN d (Sort.order2 ltN d a b k).2.1 c (Sort.order2 ltN d a b k).2.2).2.2).2.1, (Sort.order2 ltN d (Sort.order2 ltN d a b k).1 (Sort.order2 ltN d (Sort.order2 ltN d a b k).2.1 c (Sort.order2 ltN d a b k).2.2).1 (Sort.order2 ltN d (Sort.order2 ltN d a b k).2.1 c (Sort.order2 ltN d a b k).2.2).2.2).2.2) from rfl)
  obtain ⟨l1, l2⟩ := order2_lt (c := k) (d := d) ha hb
  have n1 : (Sort.order2 ltN d a b k).2.2 ≤ k + 1 := order2_cnt
  have HO1 := hid (order2_any w g off n cap s k pre tl d a b h hn ha hb hm (by omega) hs)
  generalize Sort.order2 ltN d a b k = r1 at *
  obtain ⟨m1, m2⟩ := order2_lt (c := r1.2.2) (d := d) l2 hc
  have n2 : (Sort.order2 ltN d r1.2.1 c r1.2.2).2.2 ≤ r1.2.2 + 1 := order2_cnt
  have HH := hid h
  clear h hs
  go_enter Try.func103, Try.ntmps103
  go_wp2_with fail
  refine HO1.out.mono ?_
  rintro e w1 ⟨rfl, k1⟩
  have K1 := hid k1
  have HO2 := hid (order2_any w1 g off n cap s r1.2.2 pre tl d r1.2.1 c (k1.arr HH.out hne) hn l2 hc hm (by omega) k1.box)
  clear k1
  generalize Sort.order2 ltN d r1.2.1 c r1.2.2 = r2 at *
  go_wp2_with fail
  refine HO2.out.mono ?_
  rintro e w2 ⟨rfl, k2⟩
  have K2 := hid (K1.out.trans k2)
  have HO3 := hid (order2_any w2 g off n cap s r2.2.2 pre tl d r1.1 r2.1 (K2.out.arr HH.out hne) hn l1 m1 hm (by omega) k2.box)
  clear k2
  generalize Sort.order2 ltN d r1.1 r2.1 r2.2.2 = r3 at *
  go_wp2_with fail
  refine HO3.out.mono ?_
  rintro e w3 ⟨rfl, k3⟩
  have K3 := hid (K2.out.trans k3)
  clear k3
  go_wp2
  go_ret
  rw [HM.out]
  exact ⟨rfl, K3.out⟩

theorem median_lt {d : Array Nat} {a b c k n : Nat} (ha : a < n) (hb : b < n) (hc : c < n) : (Sort.median ltN d a b c k).1 < n := by
  unfold Sort.median
  have h1 := order2_lt (d := d) (c := k) ha hb
  have h2 := order2_lt (d := d) (c := (Sort.order2 ltN d a b k).2.2) h1.2 hc
  exact (order2_lt h1.1 h2.1).2
theorem median_cnt {d : Array Nat} {a b c k : Nat} : (Sort.median ltN d a b c k).2 ≤ k + 3 := by
  unfold Sort.median
  have h1 : (Sort.order2 ltN d a b k).2.2 ≤ k + 1 := order2_cnt
  have h2 : (Sort.order2 ltN d (Sort.order2 ltN d a b k).2.1 c (Sort.order2 ltN d a b k).2.2).2.2 ≤ _ + 1 := order2_cnt
  have h3 : (Sort.order2 ltN d (Sort.order2 ltN d a b k).1 (Sort.order2 ltN d (Sort.order2 ltN d a b k).2.1 c (Sort.order2 ltN d a b k).2.2).1 (Sort.order2 ltN d (Sort.order2 ltN d a b k).2.1 c (Sort.order2 ltN d a b k).2.2).2.2).2.2 ≤ _ + 1 := order2_cnt
  show (Sort.order2 ltN d (Sort.order2 ltN d a b k).1 (Sort.order2 ltN d (Sort.order2 ltN d a b k).2.1 c (Sort.order2 ltN d a b k).2.2).1 (Sort.order2 ltN d (Sort.order2 ltN d a b k).2.1 c (Sort.order2 ltN d a b k).2.2).2.2).2.2 ≤ k + 3
  omega

theorem medadj_any (w : World) (g off n cap s k : Nat) (pre tl : List Value) (d : Array Nat) (a : Nat) (h : ArrAt w g off pre tl d) (hn : d.size ≤ n) (ha1 : 1 ≤ a) (ha : a + 1 < d.size) (hm : n ≤ 4611686018427387904) (hk : k < 900)
    (hs : w.heap[s]? = some (.cells #[.int .i64 k] 3 (0, 0))) (hne : g ≠ s) :
    Calls Try.prog 102 #[.slice (some ⟨g, off, none⟩) n cap, .int .i64 a, .pointer (some ⟨s, 0, none⟩)] w fun e w' => e = .returned (.int .i64 (Sort.medianAdjacent ltN d a k).1) ∧ CntAt w s (Sort.medianAdjacent ltN d a k).2 w' := by
  obtain ⟨p, hp⟩ : ∃ p, p = a - 1 := ⟨_, rfl⟩
  obtain ⟨q, hq⟩ : ∃ q, q = a + 1 := ⟨_, rfl⟩
  have HM := hid (show Sort.medianAdjacent ltN d a k = Sort.median ltN d p a q k by rw [hp, hq]; rfl)
  have HO := hid (median_any w g off n cap s k pre tl d p a q h hn (by omega) (by omega) (by omega) hm hk hs hne)
  have e1 : (a : Int) - 1 = (p : Int) := by omega
  have e2 : (a : Int) + 1 = (q : Int) := by omega
  have b1 : (a : Int) < (n : Int) := by omega
  clear h hs hp hq
  go_enter Try.func102, Try.ntmps102
  go_wp2_with fail
  refine HO.out.mono ?_
  rintro e w1 ⟨rfl, k1⟩
  have K1 := hid k1
  clear k1
  go_wp2
  go_ret
  rw [HM.out]
  exact ⟨rfl, K1.out⟩

def hintV : Sort.Hint → Value
  | .unknown => .int .i64 0
  | .increasing => .int .i64 1
  | .decreasing => .int .i64 2

/-- What is left of the pivot's choice once the middle is known. -/
def pickP (r : Nat × Nat) : Nat × Sort.Hint := (r.1, if r.2 = 0 then .increasing else if r.2 = 12 then .decreasing else .unknown)

set_option maxHeartbeats 2000000 in
theorem choose_any (w : World) (g off n cap : Nat) (pre tl : List Value) (d : Array Nat) (a b : Nat) (h : ArrAt w g off pre tl d) (hn : d.size ≤ n) (hab : a + 12 < b) (hb : b ≤ d.size) (hm : n ≤ 1000000000000) :
    Calls Try.prog 88 #[.slice (some ⟨g, off, none⟩) n cap, .int .i64 a, .int .i64 b] w fun e w' => e = .returned (.tuple #[.int .i64 (Sort.choosePivot ltN d a b).1, hintV (Sort.choosePivot ltN d a b).2]) ∧ Below w.heap.size w w' := by
  obtain ⟨l, hl⟩ : ∃ l, l = b - a := ⟨_, rfl⟩
  obtain ⟨q, hq⟩ : ∃ q, q = l / 4 := ⟨_, rfl⟩
  obtain ⟨i, hi⟩ : ∃ i, i = a + q * 1 := ⟨_, rfl⟩
  obtain ⟨j, hj⟩ : ∃ j, j = a + q * 2 := ⟨_, rfl⟩
  obtain ⟨k, hk⟩ : ∃ k, k = a + q * 3 := ⟨_, rfl⟩
  have e1 : (b : Int) - (a : Int) = (l : Int) := by omega
  have e2 : (l : Int) / 4 = (q : Int) := by omega
  have e3 : (l : Int).tdiv 4 = (q : Int) := by rw [Int.tdiv_eq_ediv_of_nonneg (by omega)]; exact e2
  have e4 : (a : Int) + (q : Int) * 1 = (i : Int) := by omega
  have e4' : (a : Int) + (q : Int) = (i : Int) := by omega
  have e5 : (a : Int) + (q : Int) * 2 = (j : Int) := by omega
  have e6 : (a : Int) + (q : Int) * 3 = (k : Int) := by omega
  have b1 : (l : Int) ≤ 1000000000000 := by omega
  have b2 : (q : Int) ≤ 1000000000000 := by omega
  have b3 : (a : Int) ≤ 1000000000000 := by omega
  have b4 : (b : Int) ≤ 1000000000000 := by omega
  have HI := hid (show 1 ≤ i ∧ i + 1 < d.size ∧ 1 ≤ j ∧ j + 1 < d.size ∧ 1 ≤ k ∧ k + 1 < d.size by omega)
  have HW := hid (show Below w.heap.size w (w.alloc (.cells #[.int .i64 0] 3)) from (Below.refl _ _).alloc (Nat.le_refl _) _)
  have HS := hid (show (w.alloc (.cells #[.int .i64 0] 3)).heap[w.heap.size]? = some (.cells #[.int .i64 ((0 : Nat) : Int)] 3 (0, 0)) from heap_alloc_new w _)
  have HA := hid (h.block (HW.out.block g h.lt))
  have HG := hid (show g ≠ w.heap.size from Nat.ne_of_lt h.lt)
  have hl8 : (8 : Int) ≤ (l : Int) := by omega
  have hmm : n ≤ 4611686018427387904 := by omega
  have fin : ∀ w1 c, CntAt (w.alloc (.cells #[.int .i64 0] 3)) w.heap.size c w1 → Below w.heap.size w w1 := fun w1 c hc => HW.out.trans (hc.keeps.below (by simp) (fun i hi => by omega))
  have FIN := hid fin
  have HLQ := hid (show l / 4 = q from hq.symm)
  have HLD := hid (show b - a = l from hl.symm)
  have HIJ := hid (show a + q * 1 = i ∧ a + q * 2 = j ∧ a + q * 3 = k from ⟨hi.symm, hj.symm, hk.symm⟩)
  by_cases h50 : 50 ≤ l
  · have h50i : (50 : Int) ≤ (l : Int) := by omega
    have HC := hid (show Sort.choosePivot ltN d a b = pickP (Sort.median ltN d (Sort.medianAdjacent ltN d i 0).1 (Sort.medianAdjacent ltN d j (Sort.medianAdjacent ltN d i 0).2).1 (Sort.medianAdjacent ltN d k (Sort.medianAdjacent ltN d j (Sort.medianAdjacent ltN d i 0).2).2).1 (Sort.medianAdjacent ltN d k (Sort.medianAdjacent ltN d j (Sort.medianAdjacent ltN d i 0).2).2).2) by
      unfold Sort.choosePivot
      simp only [HLD.out, HLQ.out, HIJ.out.1, HIJ.out.2.1, HIJ.out.2.2]
      rw [if_pos (by omega), if_pos (by omega)]
      rfl)
    clear h hl hq hi hj hk hab hb fin e2 h50
    have c1 : (Sort.medianAdjacent ltN d i 0).2 ≤ 0 + 3 := median_cnt
    have l1 : (Sort.medianAdjacent ltN d i 0).1 < d.size := median_lt (by have := HI.out; omega) (by have := HI.out; omega) (by have := HI.out; omega)
    have HO1 := hid (medadj_any _ g off n cap w.heap.size 0 pre tl d i HA.out hn HI.out.1 HI.out.2.1 hmm (by omega) HS.out HG.out)
    generalize Sort.medianAdjacent ltN d i 0 = R1 at *
    have c2 : (Sort.medianAdjacent ltN d j R1.2).2 ≤ R1.2 + 3 := median_cnt
    have l2 : (Sort.medianAdjacent ltN d j R1.2).1 < d.size := median_lt (by have := HI.out; omega) (by have := HI.out; omega) (by have := HI.out; omega)
    have HO2 := hid (fun w1 (k1 : CntAt (w.alloc (.cells #[.int .i64 0] 3)) w.heap.size R1.2 w1) => medadj_any w1 g off n cap w.heap.size R1.2 pre tl d j (k1.arr HA.out HG.out) hn HI.out.2.2.1 HI.out.2.2.2.1 hmm (by omega) k1.box HG.out)
    generalize Sort.medianAdjacent ltN d j R1.2 = R2 at *
    have c3 : (Sort.medianAdjacent ltN d k R2.2).2 ≤ R2.2 + 3 := median_cnt
    have l3 : (Sort.medianAdjacent ltN d k R2.2).1 < d.size := median_lt (by have := HI.out; omega) (by have := HI.out; omega) (by have := HI.out; omega)
    have HO3 := hid (fun w1 (k1 : CntAt (w.alloc (.cells #[.int .i64 0] 3)) w.heap.size R2.2 w1) => medadj_any w1 g off n cap w.heap.size R2.2 pre tl d k (k1.arr HA.out HG.out) hn HI.out.2.2.2.2.1 HI.out.2.2.2.2.2 hmm (by omega) k1.box HG.out)
    generalize Sort.medianAdjacent ltN d k R2.2 = R3 at *
    have hRB : (Sort.median ltN d R1.1 R2.1 R3.1 R3.2).2 ≤ R3.2 + 3 := median_cnt
    have HO4 := hid (fun w1 (k1 : CntAt (w.alloc (.cells #[.int .i64 0] 3)) w.heap.size R3.2 w1) => median_any w1 g off n cap w.heap.size R3.2 pre tl d R1.1 R2.1 R3.1 (k1.arr HA.out HG.out) hn l1 l2 l3 hmm (by omega) k1.box HG.out)
    generalize Sort.median ltN d R1.1 R2.1 R3.1 R3.2 = R at *
    have HCS := hid (show c1 = c1 from rfl)
    clear c1 c2 c3 l1 l2 l3 HCS
    go_enter Try.func88, Try.ntmps88
    go_wp2_with fail
    refine HO1.out.mono ?_
    rintro e w1 ⟨rfl, k1⟩
    have K1 := hid k1
    clear k1
    go_wp2_with fail
    refine (HO2.out w1 K1.out).mono ?_
    rintro e w2 ⟨rfl, k2⟩
    have K2 := hid (K1.out.trans k2)
    clear k2
    go_wp2_with fail
    refine (HO3.out w2 K2.out).mono ?_
    rintro e w3 ⟨rfl, k3⟩
    have K3 := hid (K2.out.trans k3)
    clear k3
    go_wp2_with fail
    refine (HO4.out w3 K3.out).mono ?_
    rintro e w4 ⟨rfl, k4⟩
    have KX := hid (K3.out.trans k4)
    clear k4
    have k49 := (cnt_cell KX.out.box).1
    have HFB := hid (FIN.out _ _ KX.out)
    have HRB := hid hRB
    clear hRB
    by_cases hr0 : R.2 = 0
    · have HPK := hid (show pickP R = (R.1, .increasing) by unfold pickP; rw [if_pos hr0])
      rw [hr0] at k49
      clear hr0
      go_wp2
      go_ret2
      rw [HC.out, HPK.out]
      exact ⟨rfl, HFB.out⟩
    · by_cases hr12 : R.2 = 12
      · have HPK := hid (show pickP R = (R.1, .decreasing) by unfold pickP; rw [if_neg hr0, if_pos hr12])
        rw [hr12] at k49
        clear hr0 hr12
        go_wp2
        go_ret2
        rw [HC.out, HPK.out]
        exact ⟨rfl, HFB.out⟩
      · have HPK := hid (show pickP R = (R.1, .unknown) by unfold pickP; rw [if_neg hr0, if_neg hr12])
        have z1 : ((R.2 : Int) == 0) = false := by rw [beq_eq_false_iff_ne]; omega
        have z2 : ((R.2 : Int) == 12) = false := by rw [beq_eq_false_iff_ne]; omega
        clear hr0 hr12
        go_wp2
        go_ret2
        rw [HC.out, HPK.out]
        exact ⟨rfl, HFB.out⟩
  · have h50i : (l : Int) < 50 := by omega
    have HC := hid (show Sort.choosePivot ltN d a b = pickP (Sort.median ltN d i j k 0) by
      unfold Sort.choosePivot
      simp only [HLD.out, HLQ.out, HIJ.out.1, HIJ.out.2.1, HIJ.out.2.2]
      rw [if_pos (by omega), if_neg (by omega)]
      rfl)
    clear h hl hq hi hj hk hab hb fin e2 h50
    have hRB : (Sort.median ltN d i j k 0).2 ≤ 0 + 3 := median_cnt
    have HO1 := hid (median_any _ g off n cap w.heap.size 0 pre tl d i j k HA.out hn (by have := HI.out; omega) (by have := HI.out; omega) (by have := HI.out; omega) hmm (by omega) HS.out HG.out)
    generalize Sort.median ltN d i j k 0 = R at *
    go_enter Try.func88, Try.ntmps88
    go_wp2_with fail
    refine HO1.out.mono ?_
    rintro e w1 ⟨rfl, k1⟩
    have KX := hid k1
    clear k1
    have k49 := (cnt_cell KX.out.box).1
    have HFB := hid (FIN.out _ _ KX.out)
    have HRB := hid hRB
    clear hRB
    by_cases hr0 : R.2 = 0
    · have HPK := hid (show pickP R = (R.1, .increasing) by unfold pickP; rw [if_pos hr0])
      rw [hr0] at k49
      clear hr0
      go_wp2
      go_ret2
      rw [HC.out, HPK.out]
      exact ⟨rfl, HFB.out⟩
    · by_cases hr12 : R.2 = 12
      · have HPK := hid (show pickP R = (R.1, .decreasing) by unfold pickP; rw [if_neg hr0, if_pos hr12])
        rw [hr12] at k49
        clear hr0 hr12
        go_wp2
        go_ret2
        rw [HC.out, HPK.out]
        exact ⟨rfl, HFB.out⟩
      · have HPK := hid (show pickP R = (R.1, .unknown) by unfold pickP; rw [if_neg hr0, if_neg hr12])
        have z1 : ((R.2 : Int) == 0) = false := by rw [beq_eq_false_iff_ne]; omega
        have z2 : ((R.2 : Int) == 12) = false := by rw [beq_eq_false_iff_ne]; omega
        clear hr0 hr12
        go_wp2
        go_ret2
        rw [HC.out, HPK.out]
        exact ⟨rfl, HFB.out⟩

end Go.Proofs.Ytdongghjchnpbaa
