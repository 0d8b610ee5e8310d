/-
  The document's First, of at least one node.
-/
import Derived.Test.YtecojmpiaaehlaaRfC
namespace Go.Proofs.Ytecojmpiaaehlaa
open Go.RowKit Go.Shelf
set_option linter.unusedVariables false

theorem mkbools' (w : World) (n : Nat) (hn : n ≤ 1000) : ∃ Z : Array Value, Z.size = n ∧ (∀ j, j < n → Z[j]? = some (.bool false)) ∧ (Instr.makeSlice 60 (.int .i64 n) (.int .i64 n)).run Try.prog w = .ok (.slice (some ⟨w.heap.size, 0, none⟩) n n) (w.alloc (.cells Z 4)) :=
  ⟨_, by simp, fun j hj => by simp [hj], mkbools w n hn⟩
/-- What of a row is taken, in memory. -/
def TakAt (w : World) (T n : Nat) (S : Nat → Bool) : Prop := ∃ Z : Array Value, w.heap[T]? = some (.cells Z 4 (0, 0)) ∧ Z.size = n ∧ ∀ j, j < n → Z[j]? = some (.bool (S j))
theorem TakAt.cell {w : World} {T n : Nat} {S : Nat → Bool} (h : TakAt w T n S) (j : Nat) (hj : j < n) : w.cell? ⟨T, j, none⟩ = some (.bool (S j)) := by
  obtain ⟨Z, h1, _, h2⟩ := h
  rw [cell_of_row _ _ _ _ _ _ h1]; exact h2 j hj
theorem TakAt.frozen {w : World} {T n : Nat} {S : Nat → Bool} (h : TakAt w T n S) (j : Nat) : w.frozen? ⟨T, j, none⟩ = false := by
  obtain ⟨Z, h1, _, h2⟩ := h
  exact frozen_of_row _ _ _ _ _ h1
theorem TakAt.put {w : World} {T n : Nat} {S : Nat → Bool} (h : TakAt w T n S) (m : Nat) (hm : m < n) : TakAt (w.setCell ⟨T, m, none⟩ (.bool true)) T n (fun a => if a = m then true else S a) := by
  obtain ⟨Z, h1, hs, h2⟩ := h
  refine ⟨_, heap_setCell_arr _ _ _ _ _ _ _ h1, by simp [hs], fun j hj => ?_⟩
  by_cases e : m = j
  · subst e
    rw [Array.getElem?_setIfInBounds_self, if_pos (by omega)]
    simp
  · rw [Array.getElem?_setIfInBounds_ne e, h2 j hj]
    simp [Ne.symm e]
theorem TakAt.block {w w' : World} {T n : Nat} {S : Nat → Bool} (h : TakAt w T n S) (hb : w'.heap[T]? = w.heap[T]?) : TakAt w' T n S := by
  obtain ⟨Z, h1, hs, h2⟩ := h
  exact ⟨Z, hb.trans h1, hs, h2⟩
theorem TakAt.lt {w : World} {T n : Nat} {S : Nat → Bool} (h : TakAt w T n S) : T < w.heap.size := by
  obtain ⟨Z, h1, _, _⟩ := h
  exact (Array.getElem?_eq_some_iff.1 h1).1

def selS (S : Nat → Bool) (q : Nat) : List Nat := (List.range q).filter S
theorem selS_succ (S : Nat → Bool) (q : Nat) : selS S (q + 1) = if S q then selS S q ++ [q] else selS S q := by
  unfold selS
  rw [List.range_succ, List.filter_append]
  cases h : S q with
  | true => simp [h]
  | false => simp [h]
theorem selS_le (S : Nat → Bool) (q : Nat) : (selS S q).length ≤ q := by
  unfold selS
  exact Nat.le_trans (List.length_filter_le _ _) (by simp)

theorem below_dn {B : Nat} {w w' : World} (h : Below B w w') (n : Nat) : Below B w (w'.drewN n) := ⟨h.os, h.tape, h.output, h.size, h.block⟩

set_option maxRecDepth 100000 in
set_option maxHeartbeats 8000000 in
theorem rfirst_yes (w : World) (v : Value) (P : List (List Int)) (kn : Nat) (len : Int) (hK : 1 ≤ kn) (h : RdP w v P) (hl : P.length ≤ 1000) (hrl : ∀ r ∈ P, r.length ≤ 1000) :
    Calls Try.prog 15 #[v, .agg #[.int .i64 kn, .int .i64 len]] w fun e w' => ∃ u, e = .returned (.agg #[.int .i64 (stA (first (bndP P) kn) : Nat), .int .i64 (stR (first (bndP P) kn) : Nat), u, .bool (first (bndP P) kn).isSome]) ∧ w'.ownsRow w.heap.size 3 1 u (stN (first (bndP P) kn)).length ((stN (first (bndP P) kn)).map iv) ∧ Below w.heap.size w w' := by
  have d1 : decide ((kn : Int) < 1) = false := decide_eq_false (by omega)
  obtain ⟨a, cap, rfl, hc1, hc2⟩ := h.len
  have HH := hid h
  clear h
  go_enter Try.func15, Try.ntmps15
  go_wp2_with fail
  obtain ⟨w2, hw2⟩ : ∃ w2, w2 = (w.alloc (.cells #[.int .i64 (kn : Nat), .int .i64 len] 24)).alloc (.cells #[.int .i64 0, .int .i64 0, .slice none 0 0, .bool false] 27) := ⟨_, rfl⟩
  have HB := hid (show Below w.heap.size w w2 by rw [hw2]; exact ((Below.refl _ w).alloc (Nat.le_refl _) _).alloc (by simp) _)
  have HR := hid (show w2.heap[w.heap.size + 1]? = some (.cells #[.int .i64 0, .int .i64 0, .slice none 0 0, .bool false] 27 (0, 0)) by rw [hw2]; have := heap_alloc_new (w.alloc (.cells #[.int .i64 (kn : Nat), .int .i64 len] 24)) (.cells #[.int .i64 0, .int .i64 0, .slice none 0 0, .bool false] 27); rwa [World.size_alloc] at this)
  have HA := hid (show w2.heap[w.heap.size]? = some (.cells #[.int .i64 (kn : Nat), .int .i64 len] 24 (0, 0)) by rw [hw2, Below.heap_alloc _ _ _ (by simp)]; exact heap_alloc_new w _)
  have hs2 : w2.heap.size = w.heap.size + 2 := by rw [hw2]; simp
  rw [← hw2]
  clear hw2
  go_loopw [5, 6, 24] (fun bv rv i wr => ∃ q : Nat, q ≤ P.length ∧ i = .int .i64 q ∧ bv = .int .i64 (bI (bestTo (bndP P) kn q)) ∧ rv = .int .i64 (rI (bestTo (bndP P) kn q)) ∧ Below w2.heap.size w2 wr) (fun _ _ i _ => P.length - (intOf i).toNat)
  case atStart => exact ⟨0, Nat.zero_le _, rfl, rfl, rfl, Below.refl _ _⟩
  case round =>
    obtain ⟨q, hq, rfl, rfl, rfl, hBq⟩ := hrel
    have HBQ := hid hBq
    by_cases hlt : q < P.length
    · obtain ⟨r, hr⟩ : ∃ r, P[q]? = some r := ⟨_, List.getElem?_eq_getElem hlt⟩
      have hrlen := hrl r (List.mem_of_getElem? hr)
      have HBS := hid (bestTo_succ (bndP P) kn q)
      rw [bndP_getD hr, ← inS_all] at HBS
      have HR0 := hid hr
      obtain ⟨b, off, rfl, a', c, hcell0, hcc1, hcc2, hrd0⟩ := (HH.out.all HB.out).all (Below.mono hBq (Nat.le_refl _)) |>.at q r hr
      have hcell := hcell0
      have hqi : (q : Int) < (P.length : Int) := by omega
      generalize bestTo (bndP P) kn q = s0 at *
      obtain ⟨wq, hwq⟩ : ∃ wq, wq = wr := ⟨_, rfl⟩
      subst hwq
      have HRD := hid hrd0
      have HC0 := hid hcell0
      have HS0 := hid (show inS kn r q s0 0 = s0 from rfl)
      clear hrd0 hcell0 hr hBq
      go_wp2_with fail
      go_loopw [5, 6, 32] (fun bv rv i wr => ∃ j : Nat, j ≤ r.length ∧ i = .int .i64 j ∧ bv = .int .i64 (bI (inS kn r q s0 j)) ∧ rv = .int .i64 (rI (inS kn r q s0 j)) ∧ Below w2.heap.size w2 wr ∧ Below wq.heap.size wq wr) (fun _ _ i _ => r.length - (intOf i).toNat)
      case atStart => exact ⟨0, Nat.zero_le _, rfl, rfl, rfl, HBQ.out, Below.refl _ _⟩
      case round =>
        obtain ⟨j, hj, rfl, rfl, rfl, hB2, hB3⟩ := hrel
        have HB2 := hid hB2
        have HB3 := hid hB3
        by_cases hjl : j < r.length
        · obtain ⟨x, hx⟩ : ∃ x, r[j]? = some x := ⟨_, List.getElem?_eq_getElem hjl⟩
          have hrd := HRD.out.all hB3
          obtain ⟨-, b2, off2, rfl, hb2l, hcx⟩ := hrd.at j (iw x) (by rw [List.getElem?_map, hx]; rfl)
          have hcx2 : wr.cell? ⟨b2, off2 + j, none⟩ = some (.int .i64 x) := hcx
          have hrow : wr.cell? ⟨b, off + q, none⟩ = some (.slice (some ⟨b2, off2, none⟩) r.length c) := (hB3.cell (p := ⟨b, off + q, none⟩) (World.block_lt_of_cell? _ _ HC0.out)).trans HC0.out
          have hask : wr.cell? ⟨w.heap.size, 0, none⟩ = some (.int .i64 (kn : Nat)) := (hB2.cell (p := ⟨w.heap.size, 0, none⟩) (by show w.heap.size < _; omega)).trans ((cell_of_row _ _ _ _ _ _ HA.out).trans rfl)
          have hji : (j : Int) < (r.length : Int) := by omega
          have HRD2 := hid hrd
          have HIS := hid (inS_succ (kn := kn) (q := q) (s := s0) hx)
          have HFR := hid (fun n => free_any (wr.drewN n) _ r (bnd x) (HRD2.out.drewN n))
          have HIN := hid (in_any x wr)
          clear hcx hB2 hB3 hrd hx
          obtain ⟨C, hC⟩ : ∃ C, C = cnt (bndL r) (bnd x) := ⟨_, rfl⟩
          rw [← hC] at HFR
          have HCC := hid hC
          generalize hs : inS kn r q s0 j = s at *
          clear hs hC
          generalize hy : bnd x = y at *
          by_cases hCk : kn ≤ C
          · have e1 : decide ((C : Int) ≥ (kn : Int)) = true := decide_eq_true (by omega)
            have e2 : decide ((kn : Int) ≤ (C : Int)) = true := decide_eq_true (by omega)
            have e3 : decide (kn ≤ C) = true := decide_eq_true hCk
            have HIS2 := hid (show inS kn r q s0 (j + 1) = better s y q by rw [HIS.out]; unfold cellS; rw [if_pos (by rw [← HCC.out]; exact hCk)])
            cases s with
            | none =>
              have HIS3 := hid (show inS kn r q s0 (j + 1) = some (y, q) from HIS2.out)
              clear hCk hy
              simp only [bI, rI]
              go_wp2_with fail
              refine HIN.out.mono ?_
              rintro e w' ⟨rfl, rfl⟩
              go_wp2_with fail
              go_quiet ((first | (go_at_call 28; exact quiet_first (HFR.out _)) | fail))
              go_wp2_with fail
              go_roundw
              case rel => exact ⟨j + 1, hjl, by go_num, by rw [HIS3.out], by rw [HIS3.out], below_dn HB2.out _, below_dn HB3.out _⟩
              case measure => simp [intOf]; omega
            | some bb =>
              obtain ⟨bm, br⟩ := bb
              by_cases hyb : y < bm
              · have HIS3 := hid (show inS kn r q s0 (j + 1) = some (y, q) by rw [HIS2.out]; unfold better; simp [hyb])
                have e4 : decide ((y : Int) < (bm : Int)) = true := decide_eq_true (by omega)
                have e5 : decide (y < bm) = true := decide_eq_true hyb
                have e6 : decide ((bm : Int) < 0) = false := decide_eq_false (by omega)
                clear hCk hyb hy
                simp only [bI, rI]
                go_wp2_with fail
                refine HIN.out.mono ?_
                rintro e w' ⟨rfl, rfl⟩
                go_wp2_with fail
                go_quiet ((first | (go_at_call 28; exact quiet_first (HFR.out _)) | fail))
                go_wp2_with fail
                go_roundw
                case rel => exact ⟨j + 1, hjl, by go_num, by rw [HIS3.out], by rw [HIS3.out], below_dn HB2.out _, below_dn HB3.out _⟩
                case measure => simp [intOf]; omega
              · have HIS3 := hid (show inS kn r q s0 (j + 1) = some (bm, br) by rw [HIS2.out]; unfold better; simp [hyb])
                have e4 : decide ((y : Int) < (bm : Int)) = false := decide_eq_false (by omega)
                have e5 : decide (y < bm) = false := decide_eq_false hyb
                have e6 : decide ((bm : Int) < 0) = false := decide_eq_false (by omega)
                clear hCk hyb hy
                simp only [bI, rI]
                go_wp2_with fail
                refine HIN.out.mono ?_
                rintro e w' ⟨rfl, rfl⟩
                go_wp2_with fail
                go_quiet ((first | (go_at_call 28; exact quiet_first (HFR.out _)) | fail))
                go_wp2_with fail
                go_roundw
                case rel => exact ⟨j + 1, hjl, by go_num, by rw [HIS3.out], by rw [HIS3.out], below_dn HB2.out _, below_dn HB3.out _⟩
                case measure => simp [intOf]; omega
          · have e1 : decide ((C : Int) ≥ (kn : Int)) = false := decide_eq_false (by omega)
            have e2 : decide ((kn : Int) ≤ (C : Int)) = false := decide_eq_false (by omega)
            have e3 : decide (kn ≤ C) = false := decide_eq_false hCk
            have HIS3 := hid (show inS kn r q s0 (j + 1) = s by rw [HIS.out]; unfold cellS; rw [if_neg (by rw [← HCC.out]; exact hCk)])
            clear hCk hy
            generalize hb1 : bI s = sb at *
            generalize hr1 : rI s = sr at *
            have HSB := hid hb1
            have HSR := hid hr1
            clear hb1 hr1
            go_wp2_with fail
            refine HIN.out.mono ?_
            rintro e w' ⟨rfl, rfl⟩
            go_wp2_with fail
            go_quiet ((first | (go_at_call 28; exact quiet_first (HFR.out _)) | fail))
            go_wp2_with fail
            go_roundw
            case rel => exact ⟨j + 1, hjl, by go_num, by rw [HIS3.out, HSB.out], by rw [HIS3.out, HSR.out], below_dn HB2.out _, below_dn HB3.out _⟩
            case measure => simp [intOf]; omega
        · have e : j = r.length := by omega
          have HE := hid (show inS kn r q s0 j = bestTo (bndP P) kn (q + 1) by rw [e]; exact HBS.out.symm)
          have hji : ¬ (j : Int) < (r.length : Int) := by omega
          clear e hjl hB2 hB3
          generalize hsj : inS kn r q s0 j = s at *
          clear hsj
          generalize hb1 : bI s = sb at *
          generalize hr1 : rI s = sr at *
          have HSB := hid hb1
          have HSR := hid hr1
          clear hb1 hr1
          go_wp2
          go_roundw
          case rel => exact ⟨q + 1, hlt, by go_num, by rw [← HE.out, HSB.out], by rw [← HE.out, HSR.out], HB2.out⟩
          case measure => simp [intOf]; omega
    · have e : q = P.length := by omega
      have hqi : ¬ (q : Int) < (P.length : Int) := by omega
      have hRr : wr.heap[w.heap.size + 1]? = some (.cells #[.int .i64 0, .int .i64 0, .slice none 0 0, .bool false] 27 (0, 0)) := (hBq.block _ (by omega)).trans HR.out
      have HRR := hid hRr
      have hplen : (bndP P).length = P.length := bndP_len P
      have HBW := hid (HB.out.trans (hBq.mono (by omega)))
      cases hs : bestTo (bndP P) kn q with
      | none =>
        have HF := hid (show first (bndP P) (kn : Int) = none by
          unfold first
          rw [if_neg (by omega), Int.toNat_natCast, hplen, ← e, hs]; rfl)
        clear hs e hlt hRr hBq hplen
        simp only [bI, rI]
        go_wp2_with (first
          | (refine store_st rfl 27 (.tmp 4) (.tmp 62) rfl (w.heap.size + 1) #[.int .i64 0, .int .i64 0, .slice none 0 0, .bool false] rfl rfl _ 4 HRR.out info_rstart rfl rfl (by simp [Value.oneCell']) ?_)
          | fail)
        refine bodyPost_ret (results_cell_row (P := Try.prog) rfl _ _ (w.heap.size + 1) 27 _ (0, 0) _ rfl (setRow_heap wr (w.heap.size + 1) _ _ _ _ HRR.out) Try.underlying27 rfl (by kernel_rfl)) rfl ?_
        rw [HF.out]
        exact ⟨_, rfl, World.ownsRow_nil _ _ _ _, below_setRow HBW.out _ _ (by omega)⟩
      | some bb =>
        obtain ⟨t, i⟩ := bb
        obtain ⟨hi, hT, -, -⟩ := bestTo_some.1 hs
        obtain ⟨r, hr⟩ : ∃ r, P[i]? = some r := ⟨_, List.getElem?_eq_getElem (by omega)⟩
        rw [bndP_getD hr] at hT
        have hrlen := hrl r (List.mem_of_getElem? hr)
        have hkl : kn ≤ r.length := by
          have h1 := (rowT_some.1 hT).1.2
          have h2 := cnt_len (bndL r) t
          rw [bndL_len] at h2
          omega
        have HF := hid (show first (bndP P) (kn : Int) = some (t, i, sel (bndL r) kn t) by
          unfold first
          rw [if_neg (by omega), Int.toNat_natCast, hplen, ← e, hs]
          show some (t, i, sel ((bndP P).getD i []) kn t) = _
          rw [bndP_getD hr])
        have HT := hid hT
        have hii : (i : Int) < (P.length : Int) := by omega
        have e1 : decide ((i : Int) < 0) = false := decide_eq_false (by omega)
        obtain ⟨b, off, rfl, a', c, hcell0, hcc1, hcc2, hrd0⟩ := HH.out.at i r hr
        have HC0 := hid hcell0
        have HRD := hid hrd0
        clear hs e hlt hRr hplen hT hr hcell0 hrd0
        simp only [bI, rI]
        go_wp2_with (first
          | (refine st_fresh rfl 27 (.tmp 11) (.tmp 65) rfl 4 info_rstart wr _ #[.int .i64 (t : Nat), .int .i64 (i : Nat), .slice none 0 0, .bool true] rfl rfl rfl rfl (by simp [Value.oneCell']) ?_; intro w3 g3 b3 s3; have HG3 := hid g3; have HB3 := hid (HBW.out.trans (b3.mono HBW.out.size)); have hrow3 : w3.cell? ⟨b, off + i, none⟩ = some (.slice a' r.length c) := ((HBW.out.trans (b3.mono HBW.out.size)).cell (p := ⟨b, off + i, none⟩) (World.block_lt_of_cell? _ _ HC0.out)).trans HC0.out; obtain ⟨Z, hZs, hZ, hmk⟩ := mkbools' w3 r.length hrlen; have HZS := hid hZs; have HZ := hid hZ; have k4 : (w3.alloc (.cells Z 4)).cell? ⟨w.heap.size, 0, none⟩ = some (.int .i64 (kn : Nat)) := (World.cell?_of_block (w := w3) (Below.heap_alloc _ _ _ (show w.heap.size < w3.heap.size by have := hBq.size; omega))).trans ((World.cell?_of_block (w := w2) ((b3.block w.heap.size (show w.heap.size < wr.heap.size by have := hBq.size; omega)).trans (hBq.block _ (by omega)))).trans ((cell_of_row _ _ _ _ _ _ HA.out).trans rfl)); clear hZs hZ; have HR3 := hid ((b3.block _ (show w.heap.size + 1 < wr.heap.size by have := hBq.size; omega)).trans HRR.out); have HA3 := hid ((b3.block w.heap.size (show w.heap.size < wr.heap.size by have := hBq.size; omega)).trans ((hBq.block _ (by omega)).trans HA.out)); have hwsz : w2.heap.size ≤ wr.heap.size := hBq.size; clear g3 b3)
          | fail)
        obtain ⟨w4, hw4⟩ : ∃ w4, w4 = w3.alloc (.cells Z 4) := ⟨_, rfl⟩
        rw [← hw4]
        rw [← hw4] at k4
        have hb34 : Below w3.heap.size w3 w4 := by rw [hw4]; exact (Below.refl _ w3).alloc (Nat.le_refl _) _
        have hT4 : TakAt w4 (wr.heap.size + 1) r.length (fun _ => false) := ⟨Z, by rw [hw4, ← s3]; exact heap_alloc_new w3 _, HZS.out, HZ.out⟩
        have hs4 : w4.heap.size = wr.heap.size + 2 := by rw [hw4]; simp [s3]
        have HT4 := hid hT4
        have HB4 := hid (HB3.out.trans (hb34.mono (by omega)))
        have HG4 := hid ((hb34.block _ (by omega)).trans HG3.out)
        have HR4 := hid ((hb34.block _ (by omega)).trans HR3.out)
        clear hw4 hb34 hT4 hmk hrow3
        obtain ⟨wq, hwq⟩ : ∃ wq, wq = wr := ⟨_, rfl⟩
        subst hwq
        have hbq0 : w2.heap.size ≤ wq.heap.size := hwsz
        go_loopw [74] (fun i' wx => ∃ (k : Nat) (S : Nat → Bool), k ≤ kn ∧ i' = .int .i64 k ∧ Tak (bndL r) S k ∧ TakAt wx (wq.heap.size + 1) r.length S ∧ Keeps (fun b => b = wq.heap.size + 1) w4 wx) (fun i' _ => kn - (intOf i').toNat)
        case atStart => exact ⟨0, _, Nat.zero_le _, rfl, tak0 _, HT4.out, Keeps.refl _ _⟩
        case round =>
          obtain ⟨k, S, hk, rfl, hS, hTA, hKp⟩ := hrel
          have HS := hid hS
          have HTA := hid hTA
          have HKP := hid hKp
          have hksz := hKp.size
          have hBx : Below w.heap.size w wr := HB4.out.trans (hKp.below HB4.out.size fun b hb => by rw [hb]; omega)
          have HBX := hid hBx
          by_cases hkk : k < kn
          · have hrow : wr.cell? ⟨b, off + i, none⟩ = some (.slice a' r.length c) := (hBx.cell (p := ⟨b, off + i, none⟩) (World.block_lt_of_cell? _ _ HC0.out)).trans HC0.out
            have hki : (k : Int) < (kn : Int) := by omega
            clear hS hTA hKp hBx
            obtain ⟨wk, hwk⟩ : ∃ wk, wk = wr := ⟨_, rfl⟩
            subst hwk
            go_wp2_with fail
            go_loopw [13, 81] (fun kv i' wx => ∃ (q : Nat) (m : Option Nat), q ≤ r.length ∧ i' = .int .i64 q ∧ kv = .int .i64 (mI m) ∧ Best (bndL r) S q m ∧ Below wk.heap.size wk wx) (fun _ i' _ => r.length - (intOf i').toNat)
            case atStart => exact ⟨0, none, Nat.zero_le _, rfl, rfl, (fun a ha => absurd ha (Nat.not_lt_zero _)), Below.refl _ _⟩
            case round =>
              obtain ⟨q, m, hq, rfl, rfl, hbest, hBk⟩ := hrel
              have HBE := hid hbest
              have HBK := hid hBk
              by_cases hql : q < r.length
              · obtain ⟨x, hx⟩ : ∃ x, r[q]? = some x := ⟨_, List.getElem?_eq_getElem hql⟩
                have hrd := HRD.out.all ((HBX.out.trans (hBk.mono HBX.out.size)).mono (Nat.le_refl _))
                obtain ⟨-, b2, off2, rfl, hb2l, hcx⟩ := hrd.at q (iw x) (by rw [List.getElem?_map, hx]; rfl)
                have hcx2 : wr.cell? ⟨b2, off2 + q, none⟩ = some (.int .i64 x) := hcx
                have hrow2 : wr.cell? ⟨b, off + i, none⟩ = some (.slice (some ⟨b2, off2, none⟩) r.length c) := (hBk.cell (p := ⟨b, off + i, none⟩) (World.block_lt_of_cell? _ _ hrow)).trans hrow
                have htk : wr.cell? ⟨wq.heap.size + 1, q, none⟩ = some (.bool (S q)) := (hBk.cell (p := ⟨wq.heap.size + 1, q, none⟩) HTA.out.lt).trans (HTA.out.cell q hql)
                have hqi2 : (q : Int) < (r.length : Int) := by omega
                have hgx : (bndL r).getD q 0 = bnd x := by rw [List.getD_eq_getElem?_getD, bndL_at hx]; rfl
                have HGX := hid hgx
                have HRD3 := hid hrd
                clear hcx hbest hBk hx hgx hrd
                cases hsq : S q with
                | true =>
                  have HN := hid (HBE.out.hit hsq)
                  rw [hsq] at htk
                  clear hsq
                  generalize hmv : mI m = mv at *
                  have HMV := hid hmv
                  clear hmv
                  go_wp2_with fail
                  go_quiet ((first | (go_at_call 27; exact quiet_first (in_any _ _)) | fail))
                  go_wp2_with fail
                  go_roundw
                  case rel => exact ⟨q + 1, m, hql, by go_num, by rw [HMV.out], HN.out, below_dn HBK.out _⟩
                  case measure => simp [intOf]; omega
                | false =>
                  rw [hsq] at htk
                  cases m with
                  | none =>
                    have HN := hid (HBE.out.first hsq)
                    clear hsq
                    simp only [mI]
                    go_wp2_with fail
                    go_quiet ((first | (go_at_call 27; exact quiet_first (in_any _ _)) | fail))
                    go_wp2_with fail
                    go_roundw
                    case rel => exact ⟨q + 1, some q, hql, by go_num, rfl, HN.out, below_dn HBK.out _⟩
                    case measure => simp [intOf]; omega
                  | some m =>
                    have hml : m < r.length := by have := HBE.out.1; omega
                    obtain ⟨y, hy⟩ : ∃ y, r[m]? = some y := ⟨_, List.getElem?_eq_getElem hml⟩
                    obtain ⟨-, b3, off3, e3, -, hcy⟩ := HRD3.out.at m (iw y) (by rw [List.getElem?_map, hy]; rfl)
                    cases e3
                    have hcy2 : wr.cell? ⟨b2, off2 + m, none⟩ = some (.int .i64 y) := hcy
                    have hgy : (bndL r).getD m 0 = bnd y := by rw [List.getD_eq_getElem?_getD, bndL_at hy]; rfl
                    have hmi : (m : Int) < (r.length : Int) := by omega
                    have z1 : decide ((m : Int) < 0) = false := decide_eq_false (by omega)
                    have HGY := hid hgy
                    clear hcy hy hgy hml
                    by_cases hlo : bnd x < bnd y
                    · have HN := hid (HBE.out.less hsq (by rw [HGX.out, HGY.out]; exact hlo))
                      have HI1 := hid (in_any x)
                      have HI2 := hid (in_any y)
                      have z2 : decide ((bnd x : Int) < (bnd y : Int)) = true := decide_eq_true (by omega)
                      have z3 : decide (bnd x < bnd y) = true := decide_eq_true hlo
                      clear hsq hlo
                      simp only [mI]
                      go_wp2_with fail
                      go_quiet ((first | (go_at_call 27; exact quiet_first (in_any _ _)) | fail))
                      go_wp2_with fail
                      go_roundw
                      case rel => exact ⟨q + 1, some q, hql, by go_num, rfl, HN.out, below_dn HBK.out _⟩
                      case measure => simp [intOf]; omega
                    · have HN := hid (HBE.out.stay (by rw [HGX.out, HGY.out]; exact hlo))
                      have z2 : decide ((bnd x : Int) < (bnd y : Int)) = false := decide_eq_false (by omega)
                      have z3 : decide (bnd x < bnd y) = false := decide_eq_false hlo
                      clear hsq hlo
                      simp only [mI]
                      go_wp2_with fail
                      go_quiet ((first | (go_at_call 27; exact quiet_first (in_any _ _)) | fail))
                      go_wp2_with fail
                      go_roundw
                      case rel => exact ⟨q + 1, some m, hql, by go_num, rfl, HN.out, below_dn HBK.out _⟩
                      case measure => simp [intOf]; omega
              · have e : q = r.length := by omega
                have hqi2 : ¬ (q : Int) < (r.length : Int) := by omega
                have hbe : Best (bndL r) S (bndL r).length m := by rw [bndL_len, ← e]; exact hbest
                have HTK := hid (HTA.out.block (hBk.block _ HTA.out.lt))
                have hkb : Keeps (fun b => b = wq.heap.size + 1) w4 wr := HKP.out.trans (Keeps.of_below hBk fun i' hi' hge => absurd hi' (by omega))
                cases m with
                | none => exact absurd hbe (HS.out.room (by rw [bndL_len]; omega))
                | some m =>
                  have hml : m < r.length := by have := hbe.1; rw [bndL_len] at this; exact this
                  have hmi : (m : Int) < (r.length : Int) := by omega
                  have HS5 := hid (HS.out.put hbe)
                  have hcm := HTK.out.cell m hml
                  have hfm := HTK.out.frozen m
                  have HT5 := hid (HTK.out.put m hml)
                  have HK5 := hid (hkb.setCell (p := ⟨wq.heap.size + 1, m, none⟩) (fun _ => rfl) (.bool true))
                  clear hbest hbe hkb hBk e hql hml
                  simp only [mI]
                  go_wp2
                  go_roundw
                  case rel => exact ⟨k + 1, _, hkk, by go_num, HS5.out, HT5.out, HK5.out⟩
                  case measure => simp [intOf]; omega
          · have ek : k = kn := by omega
            have hki : ¬ (k : Int) < (kn : Int) := by omega
            have HSEL := hid (show selS S r.length = sel (bndL r) kn t by
              have h1 := HS.out
              rw [ek] at h1
              have h2 := h1.sel hK HT.out
              rw [bndL_len] at h2
              exact h2)
            have HGR := hid ((hKp.block wq.heap.size (by omega) (by simp)).trans HG4.out)
            have HRR5 := hid ((hKp.block (w.heap.size + 1) (by omega) (by omega)).trans HR4.out)
            clear hS hTA hKp ek hkk
            obtain ⟨wz, hwz⟩ : ∃ wz, wz = wr := ⟨_, rfl⟩
            subst hwz
            have hsz5 : wq.heap.size + 2 ≤ wz.heap.size := by omega
            go_wp2_with fail
            go_loopw [116] (fun i' wx => ∃ (q : Nat) (nv : Value), q ≤ r.length ∧ i' = .int .i64 q ∧ wx.heap[wq.heap.size]? = some (.cells #[.int .i64 (t : Nat), .int .i64 (i : Nat), nv, .bool true] 27 (0, 0)) ∧ wx.ownsRow wz.heap.size 3 1 nv (selS S q).length ((selS S q).map iv) ∧ TakAt wx (wq.heap.size + 1) r.length S ∧ wx.heap[w.heap.size + 1]? = some (.cells #[.int .i64 0, .int .i64 0, .slice none 0 0, .bool false] 27 (0, 0)) ∧ Below w.heap.size w wx ∧ wz.heap.size ≤ wx.heap.size) (fun i' _ => r.length - (intOf i').toNat)
            case atStart => exact ⟨0, _, Nat.zero_le _, rfl, HGR.out, World.ownsRow_nil _ _ _ _, HTA.out, HRR5.out, HBX.out, Nat.le_refl _⟩
            case round =>
              obtain ⟨q, nv, hq, rfl, hG, hown, hTA, hR5, hB5, hzz⟩ := hrel
              have HG := hid hG
              have HOW := hid hown
              have HTA5 := hid hTA
              have HR5 := hid hR5
              have HB5 := hid hB5
              have hol := selS_le S q
              obtain ⟨av, cv, rfl, hcv1, hcv2⟩ := owns_slice hown
              by_cases hql : q < r.length
              · have htk := hTA.cell q hql
                have hqi2 : (q : Int) < (r.length : Int) := by omega
                have HSS := hid (selS_succ S q)
                cases hsq : S q with
                | false =>
                  rw [hsq] at htk
                  have HN := hid (show selS S (q + 1) = selS S q by rw [HSS.out, hsq]; rfl)
                  generalize hol' : (selS S q).length = ol at *
                  have HOL := hid hol'
                  clear hsq hG hown hTA hR5 hB5 hol'
                  go_wp2_with fail
                  go_roundw
                  case rel => exact ⟨q + 1, _, hql, by go_num, HG.out, by rw [HN.out, HOL.out]; exact HOW.out, HTA5.out, HR5.out, HB5.out, hzz⟩
                  case measure => simp [intOf]; omega
                | true =>
                  rw [hsq] at htk
                  have HN := hid (show selS S (q + 1) = selS S q ++ [q] by rw [HSS.out, hsq]; rfl)
                  have hg2 : wr.cell? ⟨wq.heap.size, 2, none⟩ = some (.slice av (selS S q).length cv) := (cell_of_row _ _ _ _ _ _ hG).trans rfl
                  have hof := hid (owns_below HOW.out ((Below.refl _ _).alloc (Nat.le_refl _) (.cells #[.int .i64 (q : Nat)] 3)))
                  have hsrc := hid (SrcC.lit wr #[.int .i64 (q : Nat)] 3 1 [iv q] rfl)
                  generalize hol' : (selS S q).length = ol at *
                  have HOL := hid hol'
                  clear hsq hG hown hTA hR5 hB5 hol'
                  go_wp2_with (at_builtin; (refine appsw (by rfl) 25 3 (.tmp 123) (.tmp 125) rfl wz.heap.size 1 8 _ Try.underlying25 Try.infoInt rfl (by decide) _ _ ol 1 (ol + 1) _ _ rfl rfl hof.out hsrc.out rfl (by intro y hy; rw [List.mem_singleton] at hy; subst hy; rfl) rfl (by omega) (by omega) (by simp; omega) ?_); intro ad9 cp9 wA hoA hgA; have HOA := hid hoA; have hgb : ∀ z, z < wz.heap.size → wA.heap[z]? = wr.heap[z]? := (fun z hz => (hgA.block z (by simp; omega) (fun e => by have := (World.ownsRow.lt hof.out z e.symm).1; omega)).trans (Below.heap_alloc _ _ _ (by omega))); have HGB := hid hgb; have hGA := (hgb wq.heap.size (by omega)).trans HG.out; have m2 : wA.cell? ⟨wq.heap.size, 2, none⟩ = some (.slice av ol cv) := (cell_of_row _ _ _ _ _ _ hGA).trans rfl; have f2 : wA.frozen? ⟨wq.heap.size, 2, none⟩ = false := frozen_of_row _ _ _ _ _ hGA; have HGA := hid hgA; have HGR6 := hid hGA; clear hoA hgA hgb hGA)
                  have hbA : Below w.heap.size w wA := (HB5.out.alloc (by omega) (.cells #[.int .i64 (q : Nat)] 3)).grown HGA.out (by simp; omega) (fun g hg => by have := (World.ownsRow.lt hof.out g hg).1; omega)
                  have HBA := hid hbA
                  have hsA : wr.heap.size + 1 ≤ wA.heap.size := by have := HGA.out.size; simpa using this
                  have HQ := hid (show ∀ z, z ≠ wq.heap.size → (wA.setCell ⟨wq.heap.size, 2, none⟩ (.slice ad9 (ol + 1) cp9)).heap[z]? = wA.heap[z]? from fun z hz => Below.heap_setCell _ _ _ _ hz)
                  clear hbA m2 f2 hg2
                  go_wp2
                  go_roundw
                  case rel =>
                    refine ⟨q + 1, .slice ad9 (ol + 1) cp9, hql, by go_num, ?_, ?_, HTA5.out.block ((HQ.out _ (by omega)).trans (HGB.out _ (by omega))), (HQ.out _ (by omega)).trans ((HGB.out _ (by omega)).trans HR5.out), HBA.out.setCell (show w.heap.size ≤ wq.heap.size by omega) _, by simp [World.setCell]; omega⟩
                    · rw [heap_setCell_arr _ _ _ _ _ _ _ HGR6.out]; simp
                    · rw [HN.out, List.length_append, HOL.out, List.map_append]
                      exact owns_by HOA.out fun z hz => HQ.out z (by have := (World.ownsRow.lt HOA.out z hz).1; omega)
                  case measure => simp [intOf]; omega
              · have e : q = r.length := by omega
                have hqi2 : ¬ (q : Int) < (r.length : Int) := by omega
                have hse : selS S q = sel (bndL r) kn t := by rw [e]; exact HSEL.out
                rw [hse] at HG HOW
                generalize hfn : (sel (bndL r) kn t).length = fn at *
                have HFN := hid hfn
                clear hG hown hTA hR5 hB5 e hql hfn hse
                go_wp2_with (first
                  | (refine load_st rfl 27 (.tmp 11) rfl wq.heap.size rfl _ _ 4 HG.out Try.underlying27 info_rstart rfl ?_)
                  | (refine store_st rfl 27 (.tmp 4) (.tmp 129) rfl (w.heap.size + 1) _ rfl rfl _ 4 HR5.out info_rstart rfl rfl (by simp [Value.oneCell']) ?_)
                  | fail)
                refine bodyPost_ret (results_cell_row (P := Try.prog) rfl _ _ (w.heap.size + 1) 27 _ (0, 0) _ rfl (setRow_heap wr (w.heap.size + 1) _ _ _ _ HR5.out) Try.underlying27 rfl (by kernel_rfl)) rfl ?_
                rw [HF.out]
                refine ⟨_, rfl, ?_, below_setRow HB5.out _ _ (by omega)⟩
                show World.ownsRow _ _ _ _ _ (sel (bndL r) kn t).length _
                rw [HFN.out]
                exact owns_base (owns_by HOW.out fun z hz => setRow_other _ _ _ _ (by have := (World.ownsRow.lt HOW.out z hz).1; omega)) (by omega)

theorem rfirst_any (w : World) (v : Value) (P : List (List Int)) (K len : Int) (h : RdP w v P) (hl : P.length ≤ 1000) (hrl : ∀ r ∈ P, r.length ≤ 1000) :
    Calls Try.prog 15 #[v, .agg #[.int .i64 K, .int .i64 len]] w fun e w' => ∃ u, e = .returned (.agg #[.int .i64 (stA (first (bndP P) K) : Nat), .int .i64 (stR (first (bndP P) K) : Nat), u, .bool (first (bndP P) K).isSome]) ∧ w'.ownsRow w.heap.size 3 1 u (stN (first (bndP P) K)).length ((stN (first (bndP P) K)).map iv) ∧ Below w.heap.size w w' := by
  by_cases hK : K < 1
  · refine (rfirst_none w v P K len hK h).mono ?_
    rintro e w' ⟨rfl, hb⟩
    have hF : first (bndP P) K = none := by unfold first; rw [if_pos hK]
    rw [hF]
    exact ⟨_, rfl, World.ownsRow_nil _ _ _ _, hb⟩
  · obtain ⟨kn, rfl⟩ : ∃ kn : Nat, K = (kn : Int) := ⟨K.toNat, by omega⟩
    exact rfirst_yes w v P kn len (by omega) h hl hrl

end Go.Proofs.Ytecojmpiaaehlaa
