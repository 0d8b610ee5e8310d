/-
  quadrilleref02.Sum: the division of polynomials, walked.
-/
import Derived.Test.YtbagpckiegpalaaBools
namespace Go.Proofs.Ytbagpckiegpalaa
open Go.RowKit

theorem bit_test (x : UInt8) (r : Nat) : ((((x.toNat : Int) / 2 ^ r).tmod 2) == 1) = x.toBitVec.getLsbD r := by
  have h : x.toBitVec.getLsbD r = decide (x.toNat / 2 ^ r % 2 = 1) := by
    show x.toNat.testBit r = _
    rw [Nat.testBit_eq_decide_div_mod_eq]
  rw [h]
  have e : ((x.toNat : Int) / 2 ^ r).tmod 2 = ((x.toNat / 2 ^ r % 2 : Nat) : Int) := by
    have e1 : (x.toNat : Int) / 2 ^ r = ((x.toNat / 2 ^ r : Nat) : Int) := by simp
    rw [e1, Int.tmod_eq_emod_of_nonneg (Int.natCast_nonneg _)]
    rfl
  rw [e]
  by_cases c : x.toNat / 2 ^ r % 2 = 1
  · simp [c]
  · rw [decide_eq_false c, beq_eq_false_iff_ne]
    intro e2
    exact c (by omega)

/-- A list of N bools that has the values f from place i on. -/
def From (l : List Bool) (N i : Nat) (f : Nat → Bool) : Prop := l.length = N ∧ ∀ k, i ≤ k → k < N → l.getD k false = f k

theorem From.set {l : List Bool} {N i : Nat} {f : Nat → Bool} (h : From l N i f) (j : Nat) (b : Bool) (f' : Nat → Bool) (hj : j < N) (hf : ∀ k, i ≤ k → k < N → f' k = if k = j then b else f k) : From (l.set j b) N i f' := by
  refine ⟨by rw [List.length_set]; exact h.1, fun k hi hk => ?_⟩
  rw [hf k hi hk]
  by_cases e : k = j
  · subst e
    simp [h.1, hj]
  · rw [if_neg e, ← h.2 k hi hk]
    simp only [List.getD_eq_getElem?_getD]
    rw [List.getElem?_set_ne (fun e' => e e'.symm)]

def byA : Array Value := (byL.map fun (b : Nat) => Value.int .i64 (b : Int)).toArray

theorem byA_get (t : Nat) (ht : t < 17) : byA[t]? = some (.int .i64 ((byL.getD t 0 : Nat) : Int)) := by
  have hl : t < byL.length := ht
  unfold byA
  simp [List.getElem?_map, List.getElem?_eq_getElem hl]

theorem byL_le (t : Nat) (ht : t < 17) : byL.getD t 0 ≤ 28 := by
  have : ∀ x : Fin 17, byL.getD x.val 0 ≤ 28 := by decide
  exact this ⟨t, ht⟩

/-- What is left of the division, turned: the sum. -/
theorem sum_left (p : List UInt8) (j : Nat) (hj : j < 32) : (Crc.sum p).getLsbD j = !(divTo p (8 * p.length) (8 * p.length + j)) := by
  have hb : Crc.bitAt p (8 * p.length + j) = false := by
    unfold Crc.bitAt
    simp [List.getElem?_eq_none (show p.length ≤ (8 * p.length + j) / 8 by omega)]
  unfold divTo Crc.sum
  rw [hb, Crc.fold_bits, BitVec.getLsbD_not, decide_eq_true (show 8 * p.length ≤ 8 * p.length + j by omega), show 8 * p.length + j - 8 * p.length = j by omega]
  simp [hj]

theorem shr_step (R : BitVec 32) (t : Nat) : (R >>> t).toNat = 2 * (R >>> (t + 1)).toNat + (if R.getLsbD t then 1 else 0) := by
  have h0 : (R >>> (t + 1)).toNat = (R >>> t).toNat / 2 := by
    rw [BitVec.toNat_ushiftRight, BitVec.toNat_ushiftRight, Nat.shiftRight_succ]
  have h1 : R.getLsbD t = decide ((R >>> t).toNat % 2 = 1) := by
    have : (R >>> t).getLsbD 0 = R.getLsbD t := by rw [BitVec.getLsbD_ushiftRight]; simp
    rw [← this]
    simp [BitVec.getLsbD, Nat.testBit_zero]
  rw [h0, h1]
  generalize (R >>> t).toNat = q
  by_cases c : q % 2 = 1
  · rw [if_pos (by simpa using c)]; omega
  · rw [if_neg (by simpa using c)]; omega

theorem shr_bound (R : BitVec 32) (t : Nat) (ht : 0 < t) : 2 * (R >>> t).toNat + 1 < 4294967296 := by
  obtain ⟨q, rfl⟩ := Nat.exists_eq_succ_of_ne_zero (show t ≠ 0 by omega)
  have h0 : (R >>> (q + 1)).toNat = (R >>> q).toNat / 2 := by
    rw [BitVec.toNat_ushiftRight, BitVec.toNat_ushiftRight, Nat.shiftRight_succ]
  have := (R >>> q).isLt
  show 2 * (R >>> (q + 1)).toNat + 1 < _
  omega

theorem bitAt_beyond (p : List UInt8) (k : Nat) (h : 8 * p.length ≤ k) : Crc.bitAt p k = false := by
  unfold Crc.bitAt
  simp [List.getElem?_eq_none (show p.length ≤ k / 8 by omega)]

set_option maxRecDepth 100000 in
set_option maxHeartbeats 1000000 in
theorem refsum_walk (a : Option Addr) (b off cap n : Nat) (p : List UInt8) (w : World) (hn : n = p.length) (hm : n ≤ 1000000) (ha : 0 < n → a = some ⟨b, off, none⟩) (hb0 : 0 < n → b < w.heap.size)
    (hc : ∀ j, j < n → w.cell? ⟨b, off + j, none⟩ = some (bv (p.getD j 0))) :
    Calls Try.prog 50 #[.slice a n cap] w fun e w' => e = .returned (.int .u32 ((Crc.sum p).toNat : Int)) ∧ Below w.heap.size w w' := by
  have HN := hid hn
  have HA := hid ha
  have HC := hid hc
  have HB0 := hid hb0
  obtain ⟨R, hR⟩ : ∃ R, R = Crc.sum p := ⟨_, rfl⟩
  rw [← hR]
  have HR := hid hR
  clear hn ha hc hb0 hR
  go_enter Try.func50, Try.ntmps50
  go_wp2_with (at_make; go_must (refine mkbools rfl (.tmp 15) (.tmp 15) rfl w.heap.size _ _ _ _ (8 * n + 32) rfl rfl (by omega) (by omega) (by omega) (Nat.le_refl _) ?_); intro w1 hown1 hb1)
  obtain ⟨g, hg⟩ : ∃ g, g = w.heap.size := ⟨_, rfl⟩
  have hgw : w.heap.size ≤ g := Nat.le_of_eq hg.symm
  rw [← hg] at hown1 ⊢
  have HG := hid hg
  clear hg
  go_loopw [20] (fun i wr => ∃ (j : Nat) (l : List Bool), j ≤ 8 * n ∧ i = .int .i64 j ∧ OwnB wr g (.slice (some ⟨g, 0, none⟩) (8 * n + 32) (8 * n + 32)) l ∧ Is l (8 * n + 32) (fun k => decide (k < j) && Crc.bitAt p k) ∧ Below w.heap.size w wr) (fun i _ => 8 * n - (intOf i).toNat)
  case atStart => exact ⟨0, _, by omega, rfl, hown1, ⟨nays_length _, fun k _ => by rw [nays_get]; simp⟩, hb1⟩
  case round =>
    obtain ⟨j, l, hj, rfl, hown, hI, hb⟩ := hrel
    have HI := hid hI
    clear hown1 hb1 hI
    by_cases hlt : j < 8 * n
    · have hn0 : 0 < n := by omega
      have ha := HA.out hn0
      subst ha
      have hj8 : j / 8 < n := by omega
      have hcell := (hb.cell (p := ⟨b, off + j / 8, none⟩) (HB0.out hn0)).trans (HC.out (j / 8) hj8)
      obtain ⟨x, hx⟩ : ∃ x, x = p.getD (j / 8) 0 := ⟨_, rfl⟩
      rw [bv_eq, ← hx] at hcell
      have HX := hid hx
      have hfz := hown.frozen j
      have hold := hown.cell j (by rw [HI.out.1]; omega)
      clear hx
      go_wp2
      refine ⟨⟨j + 1, _, by omega, by go_num, hown.stored j _, HI.out.set j _ _ (by omega) (fun k hk => ?_), hb.setCell (p := ⟨g, j, none⟩) hgw _⟩, by simp [intOf]; omega⟩
      by_cases e : k = j
      · subst e
        rw [if_pos rfl, bit_test]
        unfold Crc.bitAt
        rw [HX.out]
        simp
      · rw [if_neg e]
        by_cases c : k < j
        · simp [c, show k < j + 1 by omega]
        · simp [c, show ¬ k < j + 1 by omega]
    · obtain rfl : j = 8 * n := by omega
      have hI2 := hid (HI.out.congr (f' := fun k => Crc.bitAt p k ^^ (decide (k < 0))) (fun k hk => by
        by_cases c : k < 8 * n
        · simp [c]
        · have : Crc.bitAt p k = false := bitAt_beyond p k (by rw [← HN.out]; omega)
          simp [this]))
      clear HI
      go_wp2
      go_loopw [38] (fun i wr => ∃ (j : Nat) (l : List Bool), j ≤ 32 ∧ i = .int .i64 j ∧ OwnB wr g (.slice (some ⟨g, 0, none⟩) (8 * n + 32) (8 * n + 32)) l ∧ Is l (8 * n + 32) (fun k => Crc.bitAt p k ^^ (decide (k < j))) ∧ Below w.heap.size w wr) (fun i _ => 32 - (intOf i).toNat)
      case atStart => exact ⟨0, _, by omega, rfl, hown, hI2.out, hb⟩
      case round =>
        obtain ⟨j, l, hj, rfl, hown, hI, hb⟩ := hrel
        have HI := hid hI
        clear hI
        by_cases hlt : j < 32
        · have hfz := hown.frozen j
          have hold := hown.cell j (by rw [HI.out.1]; omega)
          obtain ⟨y, hy⟩ : ∃ y, y = l.getD j false := ⟨_, rfl⟩
          rw [← hy] at hold
          have HY := hid hy
          clear hy
          go_wp2
          refine ⟨⟨j + 1, _, by omega, by go_num, hown.stored j _, HI.out.set j _ _ (by omega) (fun k hk => ?_), hb.setCell (p := ⟨g, j, none⟩) hgw _⟩, by simp [intOf]; omega⟩
          by_cases e : k = j
          · subst e
            rw [if_pos rfl, HY.out, HI.out.2 k hk]
            simp
          · rw [if_neg e]
            have : decide (k < j + 1) = decide (k < j) := by
              by_cases c : k < j
              · rw [decide_eq_true c, decide_eq_true (by omega)]
              · rw [decide_eq_false c, decide_eq_false (by omega)]
            rw [this]
        · obtain rfl : j = 32 := by omega
          have hF : From l (8 * n + 32) 0 (divTo p 0) := ⟨HI.out.1, fun k _ hk => by rw [divTo_zero]; exact HI.out.2 k hk⟩
          have HF := hid hF
          clear hF HI hI2
          have hgs : g < wr.heap.size := hown.lt.2
          have hby : (wr.alloc (.cells byA 3)).heap[wr.heap.size]? = some (.cells byA 3 (0, 0)) := heap_alloc_new wr _
          have hown3 : OwnB (wr.alloc (.cells byA 3)) g (.slice (some ⟨g, 0, none⟩) (8 * n + 32) (8 * n + 32)) l := hown.below ((Below.refl _ _).alloc (Nat.le_refl _) _)
          have hb3 : Below w.heap.size w (wr.alloc (.cells byA 3)) := hb.alloc hb.size _
          obtain ⟨gb, hgb⟩ : ∃ gb, gb = wr.heap.size := ⟨_, rfl⟩
          rw [← hgb] at hgs hby
          have HBY := hid hby
          have HGB := hid hgb
          have HO3 := hid hown3
          have HB3 := hid hb3
          clear hgb hby hown hown3 hb3
          go_wp2
          rw [← HGB.out]
          go_loopw [7] (fun i W => ∃ (j : Nat) (l : List Bool), j ≤ 8 * n ∧ i = .int .i64 j ∧ OwnB W g (.slice (some ⟨g, 0, none⟩) (8 * n + 32) (8 * n + 32)) l ∧ From l (8 * n + 32) j (divTo p j) ∧ W.heap[gb]? = some (.cells byA 3 (0, 0)) ∧ Below w.heap.size w W) (fun i _ => 8 * n - (intOf i).toNat)
          case atStart => exact ⟨0, l, by omega, rfl, HO3.out, HF.out, HBY.out, HB3.out⟩
          case round =>
            obtain ⟨j, l, hj, rfl, hown, hF, hby, hb⟩ := hrel
            have HF := hid hF
            have HBY := hid hby
            clear hF hby HO3 HB3
            by_cases hlt : j < 8 * n
            · have hold := hown.cell j (by rw [HF.out.1]; omega)
              obtain ⟨y, hy⟩ : ∃ y, y = l.getD j false := ⟨_, rfl⟩
              rw [← hy] at hold
              have HY := hid hy
              have hyd := hid (show y = divTo p j j by rw [hy]; exact HF.out.2 j (Nat.le_refl _) (by omega))
              clear hy
              cases y
              · go_wp2
                refine ⟨⟨j + 1, l, by omega, by go_num, hown, ⟨HF.out.1, fun k hk1 hk2 => ?_⟩, HBY.out, hb⟩, by simp [intOf]; omega⟩
                rw [HF.out.2 k (by omega) hk2, divTo_succ p j k (by omega), ← hyd.out]
                simp
              · go_wp2
                obtain ⟨wo, rfl⟩ : ∃ wo : World, wo = wr := ⟨_, rfl⟩
                go_loopw [64] (fun i W => ∃ (s : Nat) (l' : List Bool), s ≤ 17 ∧ i = .int .i64 s ∧ OwnB W g (.slice (some ⟨g, 0, none⟩) (8 * n + 32) (8 * n + 32)) l' ∧ From l' (8 * n + 32) (j + 1) (fun k => divTo p j k ^^ turns j s k) ∧ W.heap[gb]? = some (.cells byA 3 (0, 0)) ∧ Below w.heap.size w W) (fun i _ => 17 - (intOf i).toNat)
                case atStart => exact ⟨0, l, by omega, rfl, hown, ⟨HF.out.1, fun k hk1 hk2 => by rw [HF.out.2 k (by omega) hk2]; unfold turns; simp⟩, HBY.out, hb⟩
                case round =>
                  obtain ⟨s, l', hs, rfl, hown', hF', hby', hb'⟩ := hrel
                  have HF' := hid hF'
                  have HBY' := hid hby'
                  clear hF' hby' hold hown HBY
                  by_cases hs17 : s < 17
                  · obtain ⟨d, hd⟩ : ∃ d, d = byL.getD s 0 := ⟨_, rfl⟩
                    have hd28 : d ≤ 28 := by rw [hd]; exact byL_le s hs17
                    have hcb : wr.cell? ⟨gb, s, none⟩ = some (.int .i64 (d : Int)) := by
                      rw [hd]; exact (cell_of_row wr gb s byA _ (0, 0) HBY'.out).trans (byA_get s hs17)
                    have HD := hid hd
                    have hold := hown'.cell (j + 32 - d) (by rw [HF'.out.1]; omega)
                    have hfz := hown'.frozen (j + 32 - d)
                    obtain ⟨z, hz⟩ : ∃ z, z = l'.getD (j + 32 - d) false := ⟨_, rfl⟩
                    rw [← hz] at hold
                    have hzd := hid (show z = (divTo p j (j + 32 - d) ^^ turns j s (j + 32 - d)) by rw [hz]; exact HF'.out.2 _ (by omega) (by omega))
                    clear hd hz
                    go_wp2
                    refine ⟨⟨s + 1, _, by omega, by go_num, hown'.stored (j + 32 - d) _, HF'.out.set (j + 32 - d) _ _ (by omega) (fun k hk1 hk2 => ?_), (Below.heap_setCell _ _ _ _ (show gb ≠ g by omega)).trans HBY'.out, hb'.setCell (p := ⟨g, j + 32 - d, none⟩) hgw _⟩, by simp [intOf]; omega⟩
                    rw [turns_succ j s k hs17, ← HD.out]
                    by_cases e : k = j + 32 - d
                    · subst e
                      rw [if_pos rfl, hzd.out]
                      simp
                    · rw [if_neg e]
                      simp [e]
                  · obtain rfl : s = 17 := by omega
                    go_wp2
                    refine ⟨⟨j + 1, l', by omega, by go_num, hown', ⟨HF'.out.1, fun k hk1 hk2 => ?_⟩, HBY'.out, hb'⟩, by simp [intOf]; omega⟩
                    rw [HF'.out.2 k hk1 hk2, divTo_succ p j k (by omega), ← hyd.out]
                    simp
            · obtain rfl : j = 8 * n := by omega
              clear HBY
              go_wp2
              go_loop [10, 11] (fun s i => ∃ t : Nat, t ≤ 32 ∧ i = .int .i64 ((t : Int) - 1) ∧ s = .int .u32 ((R >>> t).toNat : Int)) (fun _ i => ((intOf i) + 1).toNat)
              case atStart => exact ⟨32, by omega, rfl, by rw [BitVec.toNat_ushiftRight, Nat.shiftRight_eq_div_pow, Nat.div_eq_of_lt R.isLt]; rfl⟩
              case round =>
                obtain ⟨t, ht, rfl, rfl⟩ := hrel
                cases t with
                | zero =>
                  rw [show (((0 : Nat) : Int) - 1) = -1 from rfl, show (R >>> 0).toNat = R.toNat by simp]
                  go_wp2
                  go_ret
                  exact ⟨rfl, hb⟩
                | succ t =>
                  rw [show (((t + 1 : Nat) : Int) - 1) = (t : Int) by omega]
                  have hold := hown.cell (8 * n + t) (by rw [HF.out.1]; omega)
                  obtain ⟨z, hz⟩ : ∃ z, z = l.getD (8 * n + t) false := ⟨_, rfl⟩
                  rw [← hz] at hold
                  have hzr := hid (show R.getLsbD t = !z by
                    rw [HR.out, hz, HF.out.2 _ (by omega) (by omega)]
                    have := sum_left p t (by omega)
                    rw [← HN.out] at this
                    exact this)
                  obtain ⟨q, hq⟩ : ∃ q, q = (R >>> (t + 1)).toNat := ⟨_, rfl⟩
                  have hqb : 2 * q + 1 < 4294967296 := by rw [hq]; exact shr_bound R (t + 1) (by omega)
                  have hqs := hid (show (R >>> t).toNat = 2 * q + (if R.getLsbD t then 1 else 0) by rw [hq]; exact shr_step R t)
                  rw [← hq]
                  clear hz hq
                  cases z
                  · go_wp2
                    go_round
                    case rel => exact ⟨t, by omega, by go_num, by rw [hqs.out, hzr.out]; simp; omega⟩
                    case measure => simp [intOf]
                  · go_wp2
                    go_round
                    case rel => exact ⟨t, by omega, by go_num, by rw [hqs.out, hzr.out]; simp; omega⟩
                    case measure => simp [intOf]

/-- THE CONTRACT of the document's own sum. -/
theorem refsum_any (v : Value) (p : List UInt8) (w : World) (h : Rd w v p) (hl : p.length ≤ 1000000) :
    Calls Try.prog 50 #[v] w fun e w' => e = .returned (.int .u32 ((Crc.sum p).toNat : Int)) ∧ Below w.heap.size w w' := by
  by_cases hp : 0 < p.length
  · obtain ⟨b, off, cap, rfl, h1, h2, hb, hc⟩ := h.pos hp
    exact refsum_walk _ b off cap p.length p w rfl hl (fun _ => rfl) (fun _ => hb) hc
  · have : p = [] := List.eq_nil_of_length_eq_zero (by omega)
    subst this
    obtain ⟨a, cap, rfl, _⟩ := h
    exact refsum_walk a 0 0 cap 0 [] w rfl (by omega) (fun h => absurd h (by omega)) (fun h => absurd h (by omega)) (fun j hj => absurd hj (by omega))

end Go.Proofs.Ytbagpckiegpalaa
