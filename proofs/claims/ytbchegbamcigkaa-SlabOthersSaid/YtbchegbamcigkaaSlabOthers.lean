/-
  A crash changes nothing but sectors to which a write was under way, and each of these has, byte by byte, what it had or what was written last or ahead of that, at every script, all fates and every cut; no condition.
  (The frame behind the walk is the guide's shell, at these parameters.)
-/
import Derived.Test.YtbchegbamcigkaaRows
import Derived.WalkKit
import Derived.Test.YtbchegbamcigkaaOthH
import Derived.Test.YtbchegbamcigkaaAwake5
import Derived.Test.YtbchegbamcigkaaAppG
import Derived.Test.YtbchegbamcigkaaOps5
import Derived.ProofKit
import Derived.Deep.Cut
import Derived.Deep.CutRange
import Derived.Deep.CutBlock
import Derived.Deep.Grids
import Derived.OpenShut
import Derived.ShutString
import Derived.ChangeOld
import Derived.Below
namespace Go.Proofs.Ytbchegbamcigkaa.slabOthers
open Go.ChangeShapes Go.WideShapes Go.ChangeAt Go.RowKit
open Go.ChangeMaps (open_string shut_string)
set_option linter.unusedVariables false

theorem own : ownKnob Try.prog.godebug = none := by kernel_rfl
theorem laidOut : laidOutB Try.prog = true := by kernel_rfl

theorem rowX_read {w w' : World} {b bn bd : Nat} {v : Value} {l : List UInt8} (h : ReadAns w w' v l 0) (h1 : b < w.heap.size) (h2 : bn < w.heap.size) (h3 : bd < w.heap.size) : RowX w' b bn bd v l ∧ ∃ g, v = .slice (some ⟨g, 0, none⟩) 128 128 := by
  have hr := h.rd
  rcases h with ⟨e, _⟩ | ⟨_, hl, g, rfl, hg, hge, _⟩
  · exact absurd rfl e
  · exact ⟨⟨hr, hl, g, 128, _, _, rfl, hg, .inr rfl, by omega, by omega, by omega⟩, g, rfl⟩

theorem infoBS5 : (Try.prog.info? 31).map (fun i => (i.zero, i.size, i.bytes)) = some (some (.slice none 0 0), 1, 24) := by kernel_rfl

theorem may_new (w : World) (base b bn bd : Nat) (hb : base ≤ w.heap.size) : MayAt (w.alloc (.cells #[.slice none 0 0, .slice none 0 0, .slice none 0 0, .slice none 0 0, .slice none 0 0] 48)) base b bn bd w.heap.size [nilv, nilv, nilv, nilv, nilv] (fun _ => []) := by
  have hn : ∀ i, ([nilv, nilv, nilv, nilv, nilv] : List Value).getD i nilv = nilv := fun i => by
    match i with
    | 0 => rfl
    | 1 => rfl
    | 2 => rfl
    | 3 => rfl
    | 4 => rfl
    | n + 5 => rfl
  refine ⟨heap_alloc_new w _, rfl, fun i hi => ⟨[], ?_, rfl, fun r q h => by simp at h⟩, hb, fun i j _ _ _ q h => ?_⟩
  · rw [hn]; exact World.ownsRow_nil _ _ _ _
  · rw [hn] at h; cases h

theorem mkmay (w : World) : (Instr.makeSlice 57 (.int .i64 5) (.int .i64 5)).run Try.prog w = .ok (.slice (some ⟨w.heap.size, 0, none⟩) 5 5) (w.alloc (.cells #[.slice none 0 0, .slice none 0 0, .slice none 0 0, .slice none 0 0, .slice none 0 0] 48)) := by
  have hinfo : (Try.prog.info? 48).map (fun i => (i.zero, i.size, i.bytes)) = some (some (.slice none 0 0), 1, 24) := by kernel_rfl
  obtain ⟨i, hi, hz0, hz1, hz2⟩ := info_parts hinfo
  have := run_makeSlice (P := Try.prog) (w := w) 57 48 i _ Try.underlying57 hi hz0 .i64 .i64 5 5 (by omega) (Int.le_refl _) (by rw [hz1]; simp) (by rw [hz2]; omega) (by omega)
  rw [this, hz1]
  have e : madeCells (Value.slice none 0 0).cells (Int.toNat 5 * 1) = #[.slice none 0 0, .slice none 0 0, .slice none 0 0, .slice none 0 0, .slice none 0 0] := by kernel_rfl
  rw [e]
  rfl

theorem kk5 (n : Int) : ∃ kk : Nat, kk < 5 ∧ wrap64 ((IntKind.u64.wrap n).tmod 5) = (kk : Int) := by
  have h0 : 0 ≤ IntKind.u64.wrap n := by
    simp [IntKind.wrap, IntKind.signed, IntKind.bits]
    omega
  obtain ⟨u, hu⟩ : ∃ u, u = IntKind.u64.wrap n := ⟨_, rfl⟩
  rw [← hu] at h0 ⊢
  rw [Int.tmod_eq_emod_of_nonneg h0]
  refine ⟨(u % 5).toNat, by omega, ?_⟩
  unfold wrap64
  omega

theorem rd_old5 {w : World} {v : Value} {l : List UInt8} (h : Rd w v l) (hl : l ≠ []) (k : Nat) (hk : v.ownBlock = some k) : k < w.heap.size := by
  obtain ⟨b, off, cap, rfl, _, _, hb, _⟩ := h.pos (List.length_pos_iff.2 hl)
  have : b = k := Option.some.inj hk
  omega

theorem any_step (L : List (List UInt8)) (f : List UInt8 → Bool) (r : Nat) (q : List UInt8) (h : L[r]? = some q) : (L.take (r + 1)).any f = ((L.take r).any f || f q) := by
  rw [List.take_add_one, h]
  simp

theorem slab_kt {ts : List TypeId} {b0 : Nat} {w w' : World} {base b bn bd : Nat} {wv : Value} {s : Sl} (h : SlabAt w base b bn bd wv s) (hk : KT ts b0 w w') (h1 : 101 ∉ ts) (h2 : 103 ∉ ts) (h3 : 105 ∉ ts) : SlabAt w' base b bn bd wv s := by
  have ne : ∀ {g : Nat} {cs : Array Value} {t : TypeId}, w.heap[g]? = some (.cells cs t (0, 0)) → t ∉ ts → ¬ ∃ cs t fr, w.heap[g]? = some (.cells cs t fr) ∧ t ∈ ts := fun e ht ⟨cs', t', fr', e', h'⟩ => by
    rw [e] at e'
    simp only [Option.some.injEq, Obj.cells.injEq] at e'
    exact ht (e'.2.1 ▸ h')
  exact h.keeps hk.keeps (ne h.1 h1) (ne h.2.1 h2) (ne h.2.2.1 h2) fun k hv => by
    obtain ⟨cur, hc⟩ := owns_ty h.2.2.2.1 k hv
    exact ne hc h3

set_option maxRecDepth 100000 in
set_option maxHeartbeats 8000000 in
theorem walk (a0 : Option Addr) (len0 cap0 : Nat) (a1 : Option Addr) (len1 cap1 : Nat) (z1 : List Int) (a2 : Int) (w : World) (w0 : IsOps w a0 len0 cap0) (w1 : IsRow .u8 w a1 len1 cap1 z1) (w2 : (Lit.int .i64 a2).wf = true) :
    Calls Try.prog 7 #[.slice a0 len0 cap0, .slice a1 len1 cap1, .int .i64 a2] w fun e w' => e = .returned (.bool true) ∧ Below w.heap.size w w' := by
  obtain ⟨fl, hfl, hfr⟩ := w1.rd len1 (Nat.le_refl _)
  have HFR := hid hfr
  have hob := w0.bounds
  have HOPS := hid w0
  obtain ⟨Mx, hMx⟩ : ∃ Mx, Mx = min len0 12 := ⟨_, rfl⟩
  have hm1 : Mx ≤ len0 := by omega
  have hm2 : Mx ≤ 12 := by omega
  have HEX := hid (show len0 = Mx ∨ (Mx = 12 ∧ 12 < len0) by omega)
  have hfb := w1.bounds
  clear w0 w1 w2 hfr hMx
  go_enter Try.func7, Try.ntmps7
  go_wp2_with fail
  refine (awake5_any w).mono ?_
  rintro e wa ⟨rfl, hba⟩
  have HBA := hid hba
  have hsa := hba.size
  clear hba
  go_wp2_with fail
  refine (new_yes 5 wa (by omega) (by omega)).mono ?_
  rintro e w1 ⟨b, bn, bd, rfl, n1, hb1⟩
  have H1 := hid (show SlabAt w1 wa.heap.size b bn bd (.slice none 0 0) (Sl.new 5) from n1)
  have hs1 := hb1.size
  have B1_ := hid hb1
  clear n1 hb1
  go_wp2_with fail
  go_loopw [32] (fun i wr => ∃ (j : Nat) (s : Sl) (wv : Value), j ≤ 5 ∧ i = .int .i64 j ∧ SlabAt wr wa.heap.size b bn bd wv s ∧ s.calm 5 ∧ s.fits ∧ (s.steps ≤ j ∧ s.way.length ≤ j) ∧ Below wa.heap.size wa wr) (fun i _ => 5 - (intOf i).toNat)
  case atStart => exact ⟨0, Sl.new 5, _, by omega, rfl, H1.out, calm_new 5, Sl.new_fits _, ⟨Nat.le_refl _, Nat.le_refl _⟩, B1_.out⟩
  case round =>
    obtain ⟨j, s, wv, hj, rfl, hs, hcm, hf, hst, hB⟩ := hrel
    have HS := hid hs
    have HC := hid hcm
    have HF := hid hf
    have HST := hid hst
    have HB := hid hB
    clear hs hcm hf hst hB
    by_cases hlt : j < 5
    · have hji : (j : Int) < 5 := by omega
      have HRL := hid (show Rd (wr.alloc (.cells #[.int .u8 (j : Int), .int .u8 7, .int .u8 7] 5)) (.slice (some ⟨wr.heap.size, 0, none⟩) 3 3) [UInt8.ofNat j, 7, 7] from Rd.lit wr _ (0, 0) _ 3 rfl (by
        have e : ((UInt8.ofNat j).toNat : Int) = (j : Int) := by rw [UInt8.toNat_ofNat']; omega
        simp [bv]
        omega) (by unfold maxLen; simp))
      have hba : Below wr.heap.size wr (wr.alloc (.cells #[.int .u8 (j : Int), .int .u8 7, .int .u8 7] 5)) := (Below.refl _ _).alloc (Nat.le_refl _) _
      have HSA := hid (HS.out.below hba)
      have HBA2 := hid (HB.out.trans (hba.mono HB.out.size))
      clear hba
      go_wp2_with fail
      refine (write_all wa.heap.size b bn bd wv s (j : Int) _ [UInt8.ofNat j, 7, 7] _ HSA.out (by have := HST.out; omega) (by have := HST.out; omega) HRL.out).mono ?_
      rintro e w5 ⟨wv5, rfl, h5, hk5⟩
      have H5 := hid h5
      have B5 := hid (HBA2.out.trans (HSA.out.keep hk5))
      obtain ⟨q1, q2⟩ := calm_write HC.out j [UInt8.ofNat j, 7, 7] hlt (by simp)
      have Q1 := hid q1
      have Q2 := hid q2
      clear h5 hk5 q1 q2
      go_wp2_with fail
      go_roundw
      case rel => exact ⟨j + 1, _, wv5, hlt, by go_num, H5.out, by rw [Q1.out]; exact Q2.out, Sl.write_fits HF.out HSA.out.okay _ _, by have := HST.out; have := s.write_steps (j : Int) [UInt8.ofNat j, 7, 7]; omega, B5.out⟩
      case measure => simp [intOf]; omega
    · obtain rfl : j = 5 := by omega
      go_wp2_with fail
      refine (flush_all wa.heap.size b bn bd wv s _ HS.out (by have := HST.out; omega)).mono ?_
      rintro e w5 ⟨wv0, rfl, h5, hk5⟩
      obtain ⟨s0, hs0⟩ : ∃ s0, s0 = s.flushed.1 := ⟨_, rfl⟩
      rw [← hs0] at h5
      have H5 := hid h5
      have B5 := hid (HB.out.trans (HS.out.keep hk5))
      obtain ⟨q1, q2⟩ := calm_flush HC.out
      have C0 := hid (show s0.calm 5 by rw [hs0, q1]; exact q2)
      have F0 := hid (show s0.fits by rw [hs0]; exact Sl.flushed_fits HF.out HS.out.okay)
      have W0 := hid (show s0.way = [] by rw [hs0, q1]; rfl)
      have S0 := hid (show s0.steps ≤ 6 by rw [hs0]; have := HST.out; have := s.flushed_steps; omega)
      have hs5 := B5.out.size
      clear h5 hk5 q1 q2 hs0
      have hmk := mkmay w5
      go_wp2_with fail
      have HM0 := hid (may_new w5 wa.heap.size b bn bd hs5)
      obtain ⟨w6, hw6⟩ : ∃ w6, w6 = w5.alloc (.cells #[.slice none 0 0, .slice none 0 0, .slice none 0 0, .slice none 0 0, .slice none 0 0] 48) := ⟨_, rfl⟩
      have hb6 : Below w5.heap.size w5 w6 := by rw [hw6]; exact (Below.refl _ _).alloc (Nat.le_refl _) _
      rw [← hw6] at HM0
      rw [← hw6]
      have H6 := hid (H5.out.below hb6)
      have B6 := hid (B5.out.trans (hb6.mono hs5))
      obtain ⟨gm, hgm⟩ : ∃ gm, gm = w5.heap.size := ⟨_, rfl⟩
      rw [← hgm] at HM0
      rw [← hgm]
      clear hmk hw6 hb6 hgm
      go_loopw [45] (fun i wr => ∃ (j : Nat) (V : List Value), j ≤ 5 ∧ i = .int .i64 j ∧ SlabAt wr wa.heap.size b bn bd wv0 s0 ∧ MayAt wr wa.heap.size b bn bd gm V (fun i => if i < j then [sect s0.now i] else []) ∧ Below wa.heap.size wa wr) (fun i _ => 5 - (intOf i).toNat)
      case atStart => exact ⟨0, _, by omega, rfl, H6.out, by simpa using HM0.out, B6.out⟩
      case round =>
        obtain ⟨j, V, hj, rfl, hs, hmy, hB⟩ := hrel
        have HS2 := hid hs
        have HM := hid hmy
        have HB2 := hid hB
        clear hs hmy hB
        by_cases hlt2 : j < 5
        · have hji : (j : Int) < 5 := by omega
          go_wp2_with fail
          refine (read_all wa.heap.size b bn bd wv0 s0 (j : Int) wr HS2.out).mono ?_
          rintro e w7 ⟨va, rfl, ha⟩
          rw [calm_read C0.out j hlt2] at ha ⊢
          dsimp only at ha ⊢
          obtain ⟨z1, z2, z3, z4⟩ := HS2.out.size
          obtain ⟨hrow, g, rfl⟩ := rowX_read ha z1 z2 z3
          have HRW := hid hrow
          have H7 := hid (HS2.out.below ha.below)
          have M7 := hid (HM.out.below ha.below)
          have B7 := hid (HB2.out.trans (ha.below.mono z4))
          have hs7 := B7.out.size
          have hal : Below w7.heap.size w7 (w7.alloc (.cells #[.slice (some ⟨g, 0, none⟩) 128 128] 31)) := (Below.refl _ _).alloc (Nat.le_refl _) _
          have hhd := (hal.block gm M7.out.lt).trans M7.out.head
          obtain ⟨vj, hvj⟩ : ∃ vj, V[j]? = some vj := ⟨_, List.getElem?_eq_getElem (by rw [M7.out.len]; exact hlt2)⟩
          have y1 : (w7.alloc (.cells #[.slice (some ⟨g, 0, none⟩) 128 128] 31)).cell? ⟨gm, j, none⟩ = some vj := (cell_of_row _ _ _ _ _ _ hhd).trans (by simpa using hvj)
          have y2 : (w7.alloc (.cells #[.slice (some ⟨g, 0, none⟩) 128 128] 31)).frozen? ⟨gm, j, none⟩ = false := frozen_of_row _ _ _ _ _ hhd
          have hset := M7.out.set (w5 := w7.alloc (.cells #[.slice (some ⟨g, 0, none⟩) 128 128] 31)) (k := j) (R := .slice (some ⟨w7.heap.size, 0, none⟩) 1 1) (VV' := [.slice (some ⟨g, 0, none⟩) 128 128]) (L' := [sect s0.now j]) (World.grownBy_alloc _ _ _) hlt2 (fun q hq => .inr (by have : w7.heap.size = q := Option.some.inj hq; omega)) (World.ownsRow_lit w7 (e := 31) (size := 1) #[.slice (some ⟨g, 0, none⟩) 128 128] 1 hs7 (by unfold maxLen; omega) rfl) ⟨rfl, fun r q hq => by
            cases r with
            | zero =>
              simp only [List.getElem?_cons_zero, Option.some.injEq] at hq
              subst hq
              exact ⟨_, rfl, HRW.out.keeps (S := fun k => w7.heap.size ≤ k) (Keeps.of_below hal fun i _ h => h) (fun g cs t e _ _ _ _ => by have := (Array.getElem?_eq_some_iff.1 e).1; omega)⟩
            | succ r => simp at hq⟩
          have HSET := hid hset
          have H7a := hid (H7.out.below hal)
          have B7a := hid (B7.out.trans (hal.mono hs7))
          clear ha hrow hal hhd hvj hset
          go_wp2_with fail
          go_roundw
          case rel =>
            refine ⟨j + 1, V.set j (.slice (some ⟨w7.heap.size, 0, none⟩) 1 1), hlt2, by go_num, slab_kt H7.out HSET.out.2 (by decide) (by decide) (by decide), ?_, B7.out.trans HSET.out.2.below⟩
            have e : (fun i => if i < j + 1 then [sect s0.now i] else ([] : List (List UInt8))) = (fun j' => if j' = j then [sect s0.now j] else if j' < j then [sect s0.now j'] else []) := by
              funext i
              by_cases e1 : i = j
              · subst e1; simp
              · by_cases e2 : i < j
                · rw [if_pos (by omega), if_neg e1, if_pos e2]
                · rw [if_neg (by omega), if_neg e1, if_neg e2]
            rw [e]
            exact HSET.out.1
          case measure => simp [intOf]; omega
        · obtain rfl : j = 5 := by omega
          rw [show (((5 : Nat) : Int)) = 5 from rfl]
          have HW0 := hid (within_first F0.out H6.out.okay W0.out)
          rw [C0.out.1] at HW0
          have hsb := HB2.out.size
          go_wp2_with fail
          go_loopw [62] (fun i wr => ∃ (j : Nat) (s : Sl) (wv : Value) (V : List Value) (M : Nat → List (List UInt8)), j ≤ Mx ∧ i = .int .i64 j ∧ SlabAt wr wa.heap.size b bn bd wv s ∧ s.calm 5 ∧ Within s M ∧ (s.steps ≤ 6 + j ∧ s.way.length ≤ j) ∧ MayAt wr wa.heap.size b bn bd gm V M ∧ Below wa.heap.size wa wr ∧ (∀ i, i < 5 → (M i).length ≤ 1 + j)) (fun i _ => Mx - (intOf i).toNat)
          case atStart => exact ⟨0, s0, wv0, V, _, by omega, rfl, HS2.out, C0.out, HW0.out, ⟨S0.out, by rw [W0.out]; exact Nat.le_refl _⟩, HM.out, HB2.out, fun i hi => by simp only [if_pos hi]; simp⟩
          case round =>
            obtain ⟨j, s, wv, V, M, hj3, rfl, hs3, hc3, hw3, hst3, hm3, hb3, hl3⟩ := hrel
            have HS3 := hid hs3
            have HC3 := hid hc3
            have HW3 := hid hw3
            have HST3 := hid hst3
            have HM3 := hid hm3
            have HB3 := hid hb3
            have HL3 := hid hl3
            have HBW := hid (HBA.out.trans (hb3.mono hsa))
            clear hs3 hc3 hw3 hst3 hm3 hb3 hl3
            by_cases hlt3 : j < Mx
            · obtain ⟨ob, off, eA, hob1, hlist⟩ := HOPS.out.list (by omega) 128
              obtain ⟨os, hos1, hos⟩ := hlist len0 (Nat.le_refl _)
              obtain ⟨o, A, L, C, ho, hc0, hd, hc1, hn0, hn1, hc2, hLC, hC, hlen, hrd⟩ := hos j (by omega)
              clear hos hos1 hlist ho
              subst eA
              have hcell0 := (HBW.out.cell (p := ⟨ob, off + j * 3, none⟩) hob1).trans hc0
              have hcell1 := (HBW.out.cell (p := ⟨ob, off + (j * 3 + 1), none⟩) hob1).trans hc1
              have hcell2 := (HBW.out.cell (p := ⟨ob, off + (j * 3 + 2), none⟩) hob1).trans hc2
              rw [← Nat.add_assoc] at hcell1 hcell2
              have HRD0 := hid hrd
              have hjl : (j : Int) < (len0 : Int) := by omega
              have hj12 : ¬ (12 : Int) ≤ (j : Int) := by omega
              clear hc0 hc1 hc2 hrd
              go_upto_region 21 with fail
              obtain ⟨wo, hwo⟩ : ∃ wo, wo = wr.alloc (.cells #[.int .u8 (o.d : Int), .int .i64 o.n, .slice A L C] 33) := ⟨_, rfl⟩
              have HOB := hid (show wo.heap[wr.heap.size]? = some (.cells #[.int .u8 (o.d : Int), .int .i64 o.n, .slice A L C] 33 (0, 0)) by rw [hwo]; exact heap_alloc_new wr _)
              have hbo : Below wr.heap.size wr wo := by rw [hwo]; exact (Below.refl _ _).alloc (Nat.le_refl _) _
              have HBO := hid hbo
              have y1 : wo.cell? ⟨wr.heap.size, 1, none⟩ = some (.int .i64 o.n) := (cell_of_row _ _ _ _ _ _ HOB.out).trans rfl
              have y2 : wo.cell? ⟨wr.heap.size, 2, none⟩ = some (.slice A L C) := (cell_of_row _ _ _ _ _ _ HOB.out).trans rfl
              rw [← hwo]
              clear hwo hbo hcell0 hcell1 hcell2
              go_upto_region 22 with fail
              -- ROUND3
              obtain ⟨kk, hkk, ekk⟩ := kk5 o.n
              rw [ekk]
              clear ekk
              obtain ⟨tt, htt⟩ : ∃ tt, tt = o.t := ⟨_, rfl⟩
              rw [← htt] at hlen HRD0
              have hM : min L 128 = tt.length := hlen.symm
              rw [hM] at HRD0
              have m128 : (if (128 : Int) < (L : Int) then (128 : Int) else (L : Int)) = (tt.length : Int) := mn128 L tt.length hlen
              have jC : (tt.length : Int) ≤ (C : Int) := by omega
              have ht128 : tt.length ≤ 128 := by omega
              have HBWo := hid (HBW.out.trans (HBO.out.mono HBW.out.size))
              have HP := hid (show ∀ W, Below w.heap.size w W → Rd W (.slice A tt.length C) tt from fun W hW => HRD0.out.below hW)
              have HE := hid (Own.empty wo wo.heap.size (Nat.le_refl _))
              have HRE := hid ((HP.out wo HBWo.out).alloc (.cells #[] 5))
              have hkki : (kk : Int) < 5 := by omega
              clear htt hM hlen
              go_wp2_with (at_builtin; (refine appk rfl (.tmp 83) (.tmp 84) rfl wo.heap.size (.slice (some ⟨wo.heap.size, 0, none⟩) 0 0) _ [] tt tt tt.length rfl rfl HE.out HRE.out (by simp) rfl (by simp; omega) (by simp) ?_); intro ad cp w5 ho5 hg5; have HO5 := hid ho5; have HG5 := hid hg5; clear ho5 hg5)
              have h5b : Below wo.heap.size wo w5 := ((Below.refl _ _).alloc (Nat.le_refl _) _).grown HG5.out (by simp) (fun k hk => by have := (HE.out.lt k hk).1; omega)
              have h3b : Below wr.heap.size wr w5 := HBO.out.trans (h5b.mono HBO.out.size)
              have HS5 := hid (HS3.out.below h3b)
              have HM5 := hid (HM3.out.below h3b)
              have HB5 := hid (HB3.out.trans (h3b.mono HB3.out.size))
              clear h5b h3b y1
              refine (write_all wa.heap.size b bn bd wv s (kk : Int) _ tt w5 HS5.out (by have := HST3.out; omega) (by have := HST3.out; omega) HO5.out.rd).mono ?_
              rintro e w6 ⟨wv6, rfl, h6, hk6⟩
              obtain ⟨q1, q2⟩ := calm_write HC3.out kk tt hkk ht128
              rw [q1] at h6 ⊢
              have hsteps := s.write_steps (kk : Int) tt
              rw [q1] at hsteps
              obtain ⟨s2, hs2⟩ : ∃ s2, s2 = (s.put kk (pad tt)).step := ⟨_, rfl⟩
              dsimp only at h6 hsteps ⊢
              rw [← hs2] at h6 q2 hsteps
              have HW6 := hid (show Within s2 (more M kk (pad tt)) by rw [hs2]; exact HW3.out.write HS5.out.okay kk tt (by rw [HC3.out.1]; exact hkk) ht128)
              have H6 := hid h6
              have HC6 := hid q2
              have HST6 := hid (show s2.steps ≤ 6 + (j + 1) ∧ s2.way.length ≤ j + 1 by have := HST3.out; omega)
              have HM6 := hid (HM5.out.slab HS5.out hk6)
              have HB6 := hid (HB5.out.trans (HS5.out.keep hk6))
              have HBW6 := hid (HBA.out.trans (HB6.out.mono hsa))
              have hs6 := HB6.out.size
              clear h6 hk6 q1 q2 hs2 hsteps y2
              go_wp2_with fail
              obtain ⟨VK, hok, hxk, hrk⟩ := HM6.out.rows kk hkk
              obtain ⟨va, vc, ev, hv1, hv2⟩ := owns_slice hok
              have hVK : V[kk]? = some (.slice va (M kk).length vc) := by
                have h9 : kk < V.length := by rw [HM6.out.len]; exact hkk
                rw [List.getElem?_eq_getElem h9]
                have := ev
                simp only [List.getD_eq_getElem?_getD, List.getElem?_eq_getElem h9, Option.getD_some] at this
                rw [this]
              have HVK := hid hVK
              rw [ev] at hok
              have HOK := hid hok
              have HXK := hid (show RowsX w6 b bn bd VK (M kk) from ⟨hxk, hrk⟩)
              have HEV := hid ev
              obtain ⟨g1, g2, g3, g4⟩ := H6.out.size
              have HZ := hid (show ∀ W, Below w6.heap.size w6 W → W.cell? ⟨gm, kk, none⟩ = some (.slice va (M kk).length vc) from fun W hW => (cell_of_row _ _ _ _ _ _ ((hW.block gm HM6.out.lt).trans HM6.out.head)).trans (by simpa using HVK.out))
              clear hok hxk hrk ev hVK
              have d0 : w6.drew.cell? ⟨gm, kk, none⟩ = some (.slice va (M kk).length vc) := HZ.out _ (below_drw (Below.refl _ _))
              have hbA : Below w6.heap.size w6 (w6.alloc (.cells #[] 5)).drew := below_drw ((Below.refl _ _).alloc (Nat.le_refl _) _)
              have HBA6 := hid hbA
              have d1 : (w6.alloc (.cells #[] 5)).drew.cell? ⟨gm, kk, none⟩ = some (.slice va (M kk).length vc) := HZ.out _ hbA
              have HE6 := hid (show Own (w6.alloc (.cells #[] 5)).drew w6.heap.size (.slice (some ⟨w6.heap.size, 0, none⟩) 0 0) [] from Own.empty w6 _ (Nat.le_refl _))
              have HP6 := hid (show Rd (w6.alloc (.cells #[] 5)).drew (.slice A tt.length C) tt from HP.out _ (HBW6.out.trans (hbA.mono (by omega))))
              have hsub : IntKind.i64.wrap ((128 : Int) - (tt.length : Int)) = (128 : Int) - (tt.length : Int) := IntWalk.i64_in _ (by omega)
              have hz9 : (128 : Int) - (tt.length : Int) = ((128 - tt.length : Nat) : Int) := by omega
              have HZ9 := hid hz9
              have HL3k := hid (show (M kk).length ≤ 20 by have := HL3.out kk hkk; omega)
              clear hbA hz9
              have HFIN := hid (show ∀ w8 ad8 cp8 ad9 cp9 w9, Below w6.heap.size w6 w8 → Own w8 w6.heap.size (.slice ad8 128 cp8) (pad tt) → (w8.alloc (.cells #[.slice ad8 128 cp8] 31)).grownBy w9 (Value.slice va (M kk).length vc).ownBlock →
                  w9.ownsRow wa.heap.size 31 1 (.slice ad9 ((M kk).length + 1) cp9) ((M kk).length + 1) (VK ++ [.slice ad8 128 cp8]) → (∀ q, (Value.slice ad9 ((M kk).length + 1) cp9).ownBlock = some q → (Value.slice va (M kk).length vc).ownBlock = some q ∨ (w8.alloc (.cells #[.slice ad8 128 cp8] 31)).heap.size ≤ q) →
                  SlabAt (w9.setCell ⟨gm, kk, none⟩ (.slice ad9 ((M kk).length + 1) cp9)) wa.heap.size b bn bd wv6 s2 ∧ MayAt (w9.setCell ⟨gm, kk, none⟩ (.slice ad9 ((M kk).length + 1) cp9)) wa.heap.size b bn bd gm (V.set kk (.slice ad9 ((M kk).length + 1) cp9)) (more M kk (pad tt)) ∧
                  Below wa.heap.size wa (w9.setCell ⟨gm, kk, none⟩ (.slice ad9 ((M kk).length + 1) cp9)) from by
                intro w8 ad8 cp8 ad9 cp9 w9 hb8 ho8 hg9 ho9 hl9
                have hb8a : Below w8.heap.size w8 (w8.alloc (.cells #[.slice ad8 128 cp8] 31)) := (Below.refl _ _).alloc (Nat.le_refl _) _
                have hb6a : Below w6.heap.size w6 (w8.alloc (.cells #[.slice ad8 128 cp8] 31)) := hb8.trans (hb8a.mono hb8.size)
                have hMa := HM6.out.below hb6a
                have hSa := H6.out.below hb6a
                have hrow : RowX (w8.alloc (.cells #[.slice ad8 128 cp8] 31)) b bn bd (.slice ad8 128 cp8) (pad tt) := row_own (ho8.below hb8a) (pad_length tt ht128) g1 g2 g3
                have hk9 : KT [31] wa.heap.size (w8.alloc (.cells #[.slice ad8 128 cp8] 31)) w9 := KT.of_keeps (Keeps.of_grown hg9) (fun q _ e => by
                  have ho := owns_below HOK.out hb6a
                  obtain ⟨cur, hc⟩ := owns_ty ho q e
                  exact ⟨(World.ownsRow.lt ho q e).1, _, _, _, hc, by simp⟩) (Nat.le_trans hs6 hb6a.size)
                have nx : ∀ (g : Nat) (cs : Array Value) (t : TypeId), (w8.alloc (.cells #[.slice ad8 128 cp8] 31)).heap[g]? = some (.cells cs t (0, 0)) → (t = 5 ∨ t = 103) → g ≠ b → g ≠ bn → g ≠ bd → ¬ ∃ cs t fr, (w8.alloc (.cells #[.slice ad8 128 cp8] 31)).heap[g]? = some (.cells cs t fr) ∧ t ∈ [31] := fun g cs t e ht _ _ _ => by
                  rintro ⟨cs', t', fr', e', ht'⟩
                  rw [e] at e'
                  simp only [Option.some.injEq, Obj.cells.injEq] at e'
                  rw [← e'.2.1] at ht'
                  simp only [List.mem_singleton] at ht'
                  rcases ht with rfl | rfl <;> exact absurd ht' (by decide)
                have hxs : RowsX w9 b bn bd (VK ++ [.slice ad8 128 cp8]) (M kk ++ [pad tt]) := by
                  refine RowsX.push ⟨HXK.out.1, fun r q hq => ?_⟩ (hrow.keeps hk9.keeps nx)
                  obtain ⟨v, hv, hr⟩ := HXK.out.2 r q hq
                  have hra : RowX (w8.alloc (.cells #[.slice ad8 128 cp8] 31)) b bn bd v q := hr.keeps (S := fun k => w6.heap.size ≤ k) (Keeps.of_below hb6a fun i _ h => h) (fun g cs t e _ _ _ _ => by have := (Array.getElem?_eq_some_iff.1 e).1; omega)
                  exact ⟨v, hv, hra.keeps hk9.keeps nx⟩
                have hset := hMa.set (w5 := w9) (k := kk) (R := .slice ad9 ((M kk).length + 1) cp9) (VV' := VK ++ [.slice ad8 128 cp8]) (L' := M kk ++ [pad tt]) (by rw [HEV.out]; exact hg9) hkk (by rw [HEV.out]; exact hl9) (by rw [List.length_append]; exact ho9) hxs
                refine ⟨slab_kt hSa hset.2 (by decide) (by decide) (by decide), ?_, (HB6.out.trans (hb6a.mono hs6)).trans hset.2.below⟩
                have e : more M kk (pad tt) = (fun j => if j = kk then M kk ++ [pad tt] else M j) := by
                  funext i
                  unfold more
                  by_cases e1 : i = kk
                  · subst e1; simp
                  · rw [if_neg e1, if_neg e1]
                rw [e]
                exact hset.1)
              have HLEN := hid (show ∀ i, i < 5 → (more M kk (pad tt) i).length ≤ 1 + (j + 1) from fun i hi => by
                have h9 := HL3.out i hi
                unfold more
                split
                · rw [List.length_append]; simp; omega
                · omega)
              go_region_law (first
                | (refine appst (by rfl) (.tmp 94) (.tmp 95) rfl w6.heap.size (.slice (some ⟨w6.heap.size, 0, none⟩) 0 0) (.slice A tt.length C) [] tt tt tt.length rfl rfl HE6.out HP6.out (by simp) rfl (by simp; omega) HBA6.out.size ?_; intro ad7 cp7 w7 ho7 hg7; have HO7 := hid ho7; have HB7 := hid (HBA6.out.grown hg7 HBA6.out.size (fun k hk => by have : w6.heap.size = k := Option.some.inj hk; omega)); have d7 := HZ.out w7 HB7.out; clear ho7 hg7)
                | (refine appzst (by rfl) (.tmp 96) (.tmp 99) rfl w6.heap.size (.slice ad7 tt.length cp7) ((128 : Int) - (tt.length : Int)) tt (pad tt) (128 - tt.length) 128 rfl rfl HZ9.out HO7.out (by omega) rfl (by omega) HB7.out.size ?_; intro ad8 cp8 w8 ho8 hg8; have HO8 := hid ho8; have HB8 := hid (HB7.out.grown hg8 HB7.out.size (fun k hk => (HO7.out.lt k hk).1)); have d8 := HZ.out w8 HB8.out; have HB8a := hid (HB8.out.trans (((Below.refl w8.heap.size w8).alloc (Nat.le_refl _) (.cells #[.slice ad8 128 cp8] 31)).mono HB8.out.size)); have d8a := HZ.out _ HB8a.out; have HRO8 := hid (owns_below HOK.out HB8a.out); have HSC8 := hid (SrcC.lit w8 #[.slice ad8 128 cp8] 31 1 _ rfl); clear ho8 hg8)
                | (refine appsst2 (by rfl) 48 31 (.tmp 93) (.tmp 101) rfl wa.heap.size 1 24 _ Try.underlying48 infoBS5 rfl (by decide) (.slice va (M kk).length vc) (.slice (some ⟨w8.heap.size, 0, none⟩) 1 1) (M kk).length 1 ((M kk).length + 1) VK _ rfl rfl HRO8.out HSC8.out rfl (by simp [Value.oneCell']) rfl (by have := HL3k.out; omega) (by have := HL3k.out; omega) (Nat.le_trans hs6 HB8a.out.size) ?_; intro ad9 cp9 w9 ho9 hg9 hl9; have HF9 := hid (HFIN.out w8 ad8 cp8 ad9 cp9 w9 HB8.out HO8.out hg9 ho9 hl9); have hd9 : w9.heap[gm]? = some (.cells V.toArray 48 (0, 0)) := (hg9.block gm (Nat.lt_of_lt_of_le HM6.out.lt HB8a.out.size) (fun e => by have ho := HRO8.out; obtain ⟨cur, hc⟩ := owns_ty ho gm e.symm; rw [(HB8a.out.block gm HM6.out.lt).trans HM6.out.head] at hc; simp only [Option.some.injEq, Obj.cells.injEq] at hc; exact absurd hc.2.1 (by decide))).trans ((HB8a.out.block gm HM6.out.lt).trans HM6.out.head); have d9 : w9.cell? ⟨gm, kk, none⟩ = some (.slice va (M kk).length vc) := (cell_of_row _ _ _ _ _ _ hd9).trans (by simpa using HVK.out); have z9 : w9.frozen? ⟨gm, kk, none⟩ = false := frozen_of_row _ _ _ _ _ hd9; clear ho9 hg9 hl9 hd9)
                | fail)
              all_goals clear hsub
              all_goals
                go_wp2_with fail
                go_roundw
                case rel => exact ⟨j + 1, s2, wv6, _, _, hlt3, by go_num, HF9.out.1, HC6.out, HW6.out, HST6.out, HF9.out.2.1, HF9.out.2.2, HLEN.out⟩
                case measure => simp [intOf]; omega
              -- END3
            · -- EXITS
              obtain rfl : j = Mx := by omega
              rcases HEX.out with hx | ⟨hx1, hx2⟩
              · as_aux_lemma =>
                  have hnl : ¬ (j : Int) < (len0 : Int) := by omega
                  clear hx hj3 hlt3
                  have HFW := hid (HFR.out.below (HBA.out.trans (HB3.out.mono hsa)))
                  go_wp2_with fail
                  refine (crash_all wa.heap.size b bn bd wv s _ fl a2 wr HS3.out HFW.out (fun hne q hq => by have := rd_old5 HFR.out hne q hq; have := HS3.out.low bd (.inr (.inr (.inl rfl))); omega)).mono ?_
                  rintro e w5 ⟨rfl, h5, hk5⟩
                  have HM5 := hid (HM3.out.slab HS3.out hk5)
                  have HB5 := hid (HB3.out.trans (HS3.out.keep hk5))
                  obtain ⟨s5, hs5⟩ : ∃ s5, s5 = s.crash fl a2 := ⟨_, rfl⟩
                  rw [← hs5] at h5
                  have H5c := hid h5
                  have HC5 := hid (show s5.calm 5 by rw [hs5]; exact calm_crash HC3.out fl a2)
                  have HWC := hid (show ∀ i x, i < 5 → ∃ q ∈ M i, (sect s5.now i).getD x 0 = q.getD x 0 from fun i x hi => by rw [hs5]; exact HW3.out.crash HS3.out.okay fl a2 i x (by rw [HC3.out.1]; exact hi))
                  clear h5 hk5 hs5
                  go_wp2_with fail
                  go_loopw [109] (fun i wr => ∃ (ii : Nat), ii ≤ 5 ∧ i = .int .i64 ii ∧ SlabAt wr wa.heap.size b bn bd (.slice none 0 0) s5 ∧ MayAt wr wa.heap.size b bn bd gm V M ∧ Below wa.heap.size wa wr) (fun i _ => 5 - (intOf i).toNat)
                  case atStart => exact ⟨0, by omega, rfl, H5c.out, HM5.out, HB5.out⟩
                  case round =>
                    obtain ⟨ii, hii, rfl, hs4, hm4, hb4⟩ := hrel
                    have HS4 := hid hs4
                    have HM4 := hid hm4
                    have HB4 := hid hb4
                    clear hs4 hm4 hb4
                    by_cases hi5 : ii < 5
                    · have hi5i : (ii : Int) < 5 := by omega
                      go_wp2_with fail
                      refine (read_all wa.heap.size b bn bd _ s5 (ii : Int) wr HS4.out).mono ?_
                      rintro e w7 ⟨vp, rfl, ha⟩
                      rw [calm_read HC5.out ii hi5] at ha ⊢
                      dsimp only at ha ⊢
                      obtain ⟨z1, z2, z3, z4⟩ := HS4.out.size
                      obtain ⟨l, hl⟩ : ∃ l, l = sect s5.now ii := ⟨_, rfl⟩
                      rw [← hl] at ha
                      have HLq := hid hl
                      obtain ⟨hrow, g, rfl⟩ := rowX_read ha z1 z2 z3
                      have HRW := hid hrow
                      have H7 := hid (HS4.out.below ha.below)
                      have M7 := hid (HM4.out.below ha.below)
                      have B7 := hid (HB4.out.trans (ha.below.mono z4))
                      obtain ⟨VV, hov, hxl, hxr⟩ := M7.out.rows ii hi5
                      obtain ⟨va, vc, ev, hv1, hv2⟩ := owns_slice hov
                      have hVi : V[ii]? = some (.slice va (M ii).length vc) := by
                        have h9 : ii < V.length := by rw [M7.out.len]; exact hi5
                        rw [List.getElem?_eq_getElem h9]
                        have := ev
                        simp only [List.getD_eq_getElem?_getD, List.getElem?_eq_getElem h9, Option.getD_some] at this
                        rw [this]
                      rw [ev] at hov
                      have HOV := hid hov
                      have HXR := hid (show RowsX w7 b bn bd VV (M ii) from ⟨hxl, hxr⟩)
                      have d4 : w7.cell? ⟨gm, ii, none⟩ = some (.slice va (M ii).length vc) := (cell_of_row _ _ _ _ _ _ M7.out.head).trans (by simpa using hVi)
                      clear ha hrow hl hov hxl hxr ev hVi
                      go_wp2_with fail
                      go_loop [120] (fun t120 => ∃ (x : Nat), x ≤ 128 ∧ t120 = .int .i64 x) (fun t120 => 128 - (intOf t120).toNat)
                      case atStart => exact ⟨0, by omega, rfl⟩
                      case round =>
                        obtain ⟨x, hx, rfl⟩ := hrel
                        by_cases hx2 : x < 128
                        · have hxi : (x : Int) < 128 := by omega
                          obtain ⟨y, hy⟩ : ∃ y, y = l.getD x 0 := ⟨_, rfl⟩
                          have d5 : w7.cell? ⟨g, x, none⟩ = some (.int .u8 (y.toNat : Int)) := by
                            obtain ⟨aa, cc, e9, _, _, _, h9⟩ := HRW.out.1
                            simp only [Value.slice.injEq] at e9
                            have := h9 _ e9.1.symm x (by rw [HRW.out.2.1]; exact hx2)
                            rw [Addr.add_lit, Nat.zero_add, ← hy] at this
                            exact this
                          have HY := hid (show ∃ q ∈ M ii, q.getD x 0 = y from by
                            obtain ⟨q, hq, e9⟩ := HWC.out ii x hi5
                            exact ⟨q, hq, by rw [hy, HLq.out]; exact e9.symm⟩)
                          have HYQ := hid hy
                          obtain ⟨fq, hfq⟩ : ∃ fq : List UInt8 → Bool, fq = fun q => q.getD x 0 == y := ⟨_, rfl⟩
                          have HFQ := hid hfq
                          clear hy hfq
                          go_wp2_with fail
                          go_loop [23, 130] (fun t23 t130 => ∃ (r : Nat), r ≤ (M ii).length ∧ t23 = .bool (((M ii).take r).any fq) ∧ t130 = .int .i64 r) (fun _ t130 => (M ii).length - (intOf t130).toNat)
                          case atStart => exact ⟨0, Nat.zero_le _, rfl, rfl⟩
                          case round =>
                            obtain ⟨r, hr, rfl, rfl⟩ := hrel
                            by_cases hr2 : r < (M ii).length
                            · have hri : (r : Int) < ((M ii).length : Int) := by omega
                              obtain ⟨q, hq⟩ : ∃ q, (M ii)[r]? = some q := ⟨_, List.getElem?_eq_getElem hr2⟩
                              have HST := hid (any_step (M ii) fq r q hq)
                              obtain ⟨v, hv, hvr⟩ := HXR.out.2 r q hq
                              obtain ⟨hvrd, hvl, g2, c2, cs2, t2, rfl, _⟩ := hvr
                              rcases owns_shape HOV.out with ⟨e0, e1⟩ | ⟨gv, cv, e0, _, _, _, _⟩
                              · omega
                              · simp only [Value.slice.injEq] at e0
                                obtain ⟨rfl, _, rfl⟩ := e0
                                have d6 : w7.cell? ⟨gv, r, none⟩ = some (.slice (some ⟨g2, 0, none⟩) 128 c2) := by
                                  have h9 := owns_cell HOV.out r (by rw [HOV.out.1]; omega)
                                  rw [List.getD_eq_getElem?_getD, hv] at h9
                                  exact h9
                                obtain ⟨z, hz⟩ : ∃ z, z = q.getD x 0 := ⟨_, rfl⟩
                                have d7 : w7.cell? ⟨g2, x, none⟩ = some (.int .u8 (z.toNat : Int)) := by
                                  obtain ⟨aa, cc, e9, _, _, _, h9⟩ := hvrd
                                  simp only [Value.slice.injEq] at e9
                                  have := h9 _ e9.1.symm x (by rw [hvl]; exact hx2)
                                  rw [Addr.add_lit, Nat.zero_add, ← hz] at this
                                  exact this
                                have HZE := hid (show fq q = (z == y) by rw [HFQ.out, hz])
                                clear hq hv hvrd hvl hz
                                cases hany : ((M ii).take r).any fq with
                                | true =>
                                  have HAN := hid hany
                                  clear hany
                                  go_wp2_with fail
                                  go_round
                                  case rel => exact ⟨r + 1, hr2, by rw [HST.out, HAN.out, Bool.true_or], by go_num⟩
                                  case measure => simp [intOf]; omega
                                | false =>
                                  have HAN := hid hany
                                  clear hany
                                  by_cases hzy : z = y
                                  · have hb9 : ((z.toNat : Int) == (y.toNat : Int)) = true := by rw [hzy]; simp
                                    have HZY := hid hzy
                                    clear hzy
                                    go_wp2_with fail
                                    go_round
                                    case rel => exact ⟨r + 1, hr2, by rw [HST.out, HAN.out, HZE.out, HZY.out]; simp, by go_num⟩
                                    case measure => simp [intOf]; omega
                                  · have hb9 : ((z.toNat : Int) == (y.toNat : Int)) = false := by
                                      rw [beq_eq_false_iff_ne]
                                      intro e
                                      exact hzy (UInt8.toNat_inj.1 (by omega))
                                    have HZY := hid hzy
                                    clear hzy
                                    go_wp2_with fail
                                    go_round
                                    case rel => exact ⟨r + 1, hr2, by rw [HST.out, HAN.out, HZE.out, Bool.false_or, beq_false_of_ne HZY.out], by go_num⟩
                                    case measure => simp [intOf]; omega
                            · obtain rfl : r = (M ii).length := by omega
                              have hall : ((M ii).take (M ii).length).any fq = true := by
                                rw [List.take_length, List.any_eq_true]
                                obtain ⟨q, hq, e9⟩ := HY.out
                                exact ⟨q, hq, by rw [HFQ.out]; simp only [beq_iff_eq]; exact e9⟩
                              rw [hall]
                              clear hall
                              go_wp2_with fail
                              go_round
                              case rel => exact ⟨x + 1, hx2, by go_num⟩
                              case measure => simp [intOf]; omega
                        · obtain rfl : x = 128 := by omega
                          go_wp2_with fail
                          go_roundw
                          case rel => exact ⟨ii + 1, hi5, by go_num, H7.out, M7.out, B7.out⟩
                          case measure => simp [intOf]; omega
                    · obtain rfl : ii = 5 := by omega
                      go_wp2_with fail
                      go_ret
                      exact ⟨rfl, HBA.out.trans (HB4.out.mono hsa)⟩
              · as_aux_lemma =>
                  have hj12 : (12 : Int) ≤ (j : Int) := by omega
                  have hjl : (j : Int) < (len0 : Int) := by omega
                  obtain ⟨ob, off, eA, hob1, hlist⟩ := HOPS.out.list (by omega) 128
                  obtain ⟨os, hos1, hos⟩ := hlist len0 (Nat.le_refl _)
                  obtain ⟨o, A, L, C, ho, hc0, hd, hc1, hn0, hn1, hc2, hLC, hC, hlen, hrd⟩ := hos j (by omega)
                  clear hos hos1 hlist ho
                  subst eA
                  have hcell0 := (HBW.out.cell (p := ⟨ob, off + j * 3, none⟩) hob1).trans hc0
                  have hcell1 := (HBW.out.cell (p := ⟨ob, off + (j * 3 + 1), none⟩) hob1).trans hc1
                  have hcell2 := (HBW.out.cell (p := ⟨ob, off + (j * 3 + 2), none⟩) hob1).trans hc2
                  rw [← Nat.add_assoc] at hcell1 hcell2
                  have hba9 : Below wr.heap.size wr (wr.alloc (.cells #[.int .u8 (o.d : Int), .int .i64 o.n, .slice A L C] 33)) := (Below.refl _ _).alloc (Nat.le_refl _) _
                  have HSb := hid (HS3.out.below hba9)
                  have HMb := hid (HM3.out.below hba9)
                  have HBb := hid (HB3.out.trans (hba9.mono HB3.out.size))
                  clear hc0 hc1 hc2 hrd hba9 hx1 hx2 hj3 hlt3
                  have HFW := hid (HFR.out.below (HBA.out.trans (HBb.out.mono hsa)))
                  go_wp2_with fail
                  refine (crash_all wa.heap.size b bn bd wv s _ fl a2 _ HSb.out HFW.out (fun hne q hq => by have := rd_old5 HFR.out hne q hq; have := HSb.out.low bd (.inr (.inr (.inl rfl))); omega)).mono ?_
                  rintro e w5 ⟨rfl, h5, hk5⟩
                  have HM5 := hid (HMb.out.slab HSb.out hk5)
                  have HB5 := hid (HBb.out.trans (HSb.out.keep hk5))
                  obtain ⟨s5, hs5⟩ : ∃ s5, s5 = s.crash fl a2 := ⟨_, rfl⟩
                  rw [← hs5] at h5
                  have H5c := hid h5
                  have HC5 := hid (show s5.calm 5 by rw [hs5]; exact calm_crash HC3.out fl a2)
                  have HWC := hid (show ∀ i x, i < 5 → ∃ q ∈ M i, (sect s5.now i).getD x 0 = q.getD x 0 from fun i x hi => by rw [hs5]; exact HW3.out.crash HSb.out.okay fl a2 i x (by rw [HC3.out.1]; exact hi))
                  clear h5 hk5 hs5
                  go_wp2_with fail
                  go_loopw [109] (fun i wr => ∃ (ii : Nat), ii ≤ 5 ∧ i = .int .i64 ii ∧ SlabAt wr wa.heap.size b bn bd (.slice none 0 0) s5 ∧ MayAt wr wa.heap.size b bn bd gm V M ∧ Below wa.heap.size wa wr) (fun i _ => 5 - (intOf i).toNat)
                  case atStart => exact ⟨0, by omega, rfl, H5c.out, HM5.out, HB5.out⟩
                  case round =>
                    obtain ⟨ii, hii, rfl, hs4, hm4, hb4⟩ := hrel
                    have HS4 := hid hs4
                    have HM4 := hid hm4
                    have HB4 := hid hb4
                    clear hs4 hm4 hb4
                    by_cases hi5 : ii < 5
                    · have hi5i : (ii : Int) < 5 := by omega
                      go_wp2_with fail
                      refine (read_all wa.heap.size b bn bd _ s5 (ii : Int) wr HS4.out).mono ?_
                      rintro e w7 ⟨vp, rfl, ha⟩
                      rw [calm_read HC5.out ii hi5] at ha ⊢
                      dsimp only at ha ⊢
                      obtain ⟨z1, z2, z3, z4⟩ := HS4.out.size
                      obtain ⟨l, hl⟩ : ∃ l, l = sect s5.now ii := ⟨_, rfl⟩
                      rw [← hl] at ha
                      have HLq := hid hl
                      obtain ⟨hrow, g, rfl⟩ := rowX_read ha z1 z2 z3
                      have HRW := hid hrow
                      have H7 := hid (HS4.out.below ha.below)
                      have M7 := hid (HM4.out.below ha.below)
                      have B7 := hid (HB4.out.trans (ha.below.mono z4))
                      obtain ⟨VV, hov, hxl, hxr⟩ := M7.out.rows ii hi5
                      obtain ⟨va, vc, ev, hv1, hv2⟩ := owns_slice hov
                      have hVi : V[ii]? = some (.slice va (M ii).length vc) := by
                        have h9 : ii < V.length := by rw [M7.out.len]; exact hi5
                        rw [List.getElem?_eq_getElem h9]
                        have := ev
                        simp only [List.getD_eq_getElem?_getD, List.getElem?_eq_getElem h9, Option.getD_some] at this
                        rw [this]
                      rw [ev] at hov
                      have HOV := hid hov
                      have HXR := hid (show RowsX w7 b bn bd VV (M ii) from ⟨hxl, hxr⟩)
                      have d4 : w7.cell? ⟨gm, ii, none⟩ = some (.slice va (M ii).length vc) := (cell_of_row _ _ _ _ _ _ M7.out.head).trans (by simpa using hVi)
                      clear ha hrow hl hov hxl hxr ev hVi
                      go_wp2_with fail
                      go_loop [120] (fun t120 => ∃ (x : Nat), x ≤ 128 ∧ t120 = .int .i64 x) (fun t120 => 128 - (intOf t120).toNat)
                      case atStart => exact ⟨0, by omega, rfl⟩
                      case round =>
                        obtain ⟨x, hx, rfl⟩ := hrel
                        by_cases hx2 : x < 128
                        · have hxi : (x : Int) < 128 := by omega
                          obtain ⟨y, hy⟩ : ∃ y, y = l.getD x 0 := ⟨_, rfl⟩
                          have d5 : w7.cell? ⟨g, x, none⟩ = some (.int .u8 (y.toNat : Int)) := by
                            obtain ⟨aa, cc, e9, _, _, _, h9⟩ := HRW.out.1
                            simp only [Value.slice.injEq] at e9
                            have := h9 _ e9.1.symm x (by rw [HRW.out.2.1]; exact hx2)
                            rw [Addr.add_lit, Nat.zero_add, ← hy] at this
                            exact this
                          have HY := hid (show ∃ q ∈ M ii, q.getD x 0 = y from by
                            obtain ⟨q, hq, e9⟩ := HWC.out ii x hi5
                            exact ⟨q, hq, by rw [hy, HLq.out]; exact e9.symm⟩)
                          have HYQ := hid hy
                          obtain ⟨fq, hfq⟩ : ∃ fq : List UInt8 → Bool, fq = fun q => q.getD x 0 == y := ⟨_, rfl⟩
                          have HFQ := hid hfq
                          clear hy hfq
                          go_wp2_with fail
                          go_loop [23, 130] (fun t23 t130 => ∃ (r : Nat), r ≤ (M ii).length ∧ t23 = .bool (((M ii).take r).any fq) ∧ t130 = .int .i64 r) (fun _ t130 => (M ii).length - (intOf t130).toNat)
                          case atStart => exact ⟨0, Nat.zero_le _, rfl, rfl⟩
                          case round =>
                            obtain ⟨r, hr, rfl, rfl⟩ := hrel
                            by_cases hr2 : r < (M ii).length
                            · have hri : (r : Int) < ((M ii).length : Int) := by omega
                              obtain ⟨q, hq⟩ : ∃ q, (M ii)[r]? = some q := ⟨_, List.getElem?_eq_getElem hr2⟩
                              have HST := hid (any_step (M ii) fq r q hq)
                              obtain ⟨v, hv, hvr⟩ := HXR.out.2 r q hq
                              obtain ⟨hvrd, hvl, g2, c2, cs2, t2, rfl, _⟩ := hvr
                              rcases owns_shape HOV.out with ⟨e0, e1⟩ | ⟨gv, cv, e0, _, _, _, _⟩
                              · omega
                              · simp only [Value.slice.injEq] at e0
                                obtain ⟨rfl, _, rfl⟩ := e0
                                have d6 : w7.cell? ⟨gv, r, none⟩ = some (.slice (some ⟨g2, 0, none⟩) 128 c2) := by
                                  have h9 := owns_cell HOV.out r (by rw [HOV.out.1]; omega)
                                  rw [List.getD_eq_getElem?_getD, hv] at h9
                                  exact h9
                                obtain ⟨z, hz⟩ : ∃ z, z = q.getD x 0 := ⟨_, rfl⟩
                                have d7 : w7.cell? ⟨g2, x, none⟩ = some (.int .u8 (z.toNat : Int)) := by
                                  obtain ⟨aa, cc, e9, _, _, _, h9⟩ := hvrd
                                  simp only [Value.slice.injEq] at e9
                                  have := h9 _ e9.1.symm x (by rw [hvl]; exact hx2)
                                  rw [Addr.add_lit, Nat.zero_add, ← hz] at this
                                  exact this
                                have HZE := hid (show fq q = (z == y) by rw [HFQ.out, hz])
                                clear hq hv hvrd hvl hz
                                cases hany : ((M ii).take r).any fq with
                                | true =>
                                  have HAN := hid hany
                                  clear hany
                                  go_wp2_with fail
                                  go_round
                                  case rel => exact ⟨r + 1, hr2, by rw [HST.out, HAN.out, Bool.true_or], by go_num⟩
                                  case measure => simp [intOf]; omega
                                | false =>
                                  have HAN := hid hany
                                  clear hany
                                  by_cases hzy : z = y
                                  · have hb9 : ((z.toNat : Int) == (y.toNat : Int)) = true := by rw [hzy]; simp
                                    have HZY := hid hzy
                                    clear hzy
                                    go_wp2_with fail
                                    go_round
                                    case rel => exact ⟨r + 1, hr2, by rw [HST.out, HAN.out, HZE.out, HZY.out]; simp, by go_num⟩
                                    case measure => simp [intOf]; omega
                                  · have hb9 : ((z.toNat : Int) == (y.toNat : Int)) = false := by
                                      rw [beq_eq_false_iff_ne]
                                      intro e
                                      exact hzy (UInt8.toNat_inj.1 (by omega))
                                    have HZY := hid hzy
                                    clear hzy
                                    go_wp2_with fail
                                    go_round
                                    case rel => exact ⟨r + 1, hr2, by rw [HST.out, HAN.out, HZE.out, Bool.false_or, beq_false_of_ne HZY.out], by go_num⟩
                                    case measure => simp [intOf]; omega
                            · obtain rfl : r = (M ii).length := by omega
                              have hall : ((M ii).take (M ii).length).any fq = true := by
                                rw [List.take_length, List.any_eq_true]
                                obtain ⟨q, hq, e9⟩ := HY.out
                                exact ⟨q, hq, by rw [HFQ.out]; simp only [beq_iff_eq]; exact e9⟩
                              rw [hall]
                              clear hall
                              go_wp2_with fail
                              go_round
                              case rel => exact ⟨x + 1, hx2, by go_num⟩
                              case measure => simp [intOf]; omega
                        · obtain rfl : x = 128 := by omega
                          go_wp2_with fail
                          go_roundw
                          case rel => exact ⟨ii + 1, hi5, by go_num, H7.out, M7.out, B7.out⟩
                          case measure => simp [intOf]; omega
                    · obtain rfl : ii = 5 := by omega
                      go_wp2_with fail
                      go_ret
                      exact ⟨rfl, HBA.out.trans (HB4.out.mono hsa)⟩

/-! ### THE ROW's STEP -/
set_option maxRecDepth 100000 in
theorem lifted (os : Os) (started : os.Started) (H : Type) (enc : TypeId × Value → H) :
    ReturnsInHanded {} Try.checked os 7 .any (Rows.slabOthersSpec.pre6 enc Try.prog Try.f7 Rows.slabOthersRow.domain false) (Rows.slabOthersSpec.post enc Try.prog Try.f7 false true false false) := by
  refine returnsInHanded_of_change (C := Try.checked) own started (by kernel_rfl) Try.func7
    (ChangeSpec.witness6 (enc := enc) (C := Try.checked) false ⟨#[], #[.slice none 0 0, .slice none 0 0, .int .i64 0], []⟩ 8 (by kernel_rfl) (by kernel_rfl) (by kernel_rfl) (by kernel_rfl)) ?_
  intro W base args ds gs before hval0 hW hcnd _
  have hval : ∀ (j : Nat) t v, Try.f7.params[j]? = some t → args[j]? = some v → Value.okWide Try.prog W .any base t v := hval0
  have hW' := hW
  obtain ⟨p, q, hA0, hV, rfl, hfz, hnd⟩ := hW
  have hA : DataW.TrodAll enc Try.prog W 0 (fun _ => true) true Try.f7.params.toList args.toList ds p := hA0
  rw [Try.params7] at hA hval
  obtain ⟨v0, vs0, d0, ds0, p0, q0, hargs, rfl, rfl, h0, r0⟩ := trodAll_cons hA
  obtain ⟨v1, vs1, d1, ds1, p1, q1, rfl, rfl, rfl, h1, r1⟩ := trodAll_cons r0
  obtain ⟨v2, vs2, d2, ds2, p2, q2, rfl, rfl, rfl, h2, r2⟩ := trodAll_cons r1
  obtain ⟨rfl, rfl, rfl⟩ := trodAll_nil r2
  obtain rfl : args = #[v0, v1, v2] := by cases args; simp_all
  obtain ⟨rfl, rfl⟩ := trodVars_none hV
  have k0 := h0
  have lt0 : ∀ x ∈ p0, x.block < W.heap.size := by obtain ⟨m, hm⟩ := k0; exact DataW.trod_lt m _ _ _ hm
  have k1 := h1
  have lt1 : ∀ x ∈ p1, x.block < W.heap.size := by obtain ⟨m, hm⟩ := k1; exact DataW.trod_lt m _ _ _ hm
  have k2 := h2
  have lt2 : ∀ x ∈ p2, x.block < W.heap.size := by obtain ⟨m, hm⟩ := k2; exact DataW.trod_lt m _ _ _ hm
  obtain ⟨a0, len0, cap0, rfl⟩ := okWide_slice Try.underlying22 (hval 0 22 v0 rfl rfl)
  have w0 : IsOps W a0 len0 cap0 := isOps_of h0
  obtain ⟨a1, len1, cap1, rfl⟩ := okWide_slice Try.underlying31 (hval 1 31 v1 rfl rfl)
  obtain ⟨z1, w1⟩ : ∃ zs, IsRow .u8 W a1 len1 cap1 zs := by
    obtain ⟨fuel, hf⟩ := h1
    rcases open_ints Try.underlying31 Try.underlying5 (by kernel_rfl) hf with ⟨hcs, _⟩ | ⟨x, l, c, zs, hcs, _, hl, hm, hz, _, hcell, hwz⟩
    · simp [Value.cells] at hcs
      obtain ⟨rfl, rfl, rfl⟩ := hcs
      exact ⟨[], .inl ⟨rfl, rfl, rfl, rfl⟩⟩
    · simp [Value.cells] at hcs
      obtain ⟨rfl, rfl, rfl⟩ := hcs
      exact ⟨zs, .inr ⟨_, rfl, hl, hm, by simpa using hz, hcell, hwz⟩⟩
  obtain ⟨a2, rfl, rfl, rfl, w2⟩ := open_int Try.underlying3 (hval 2 3 v2 rfl rfl) h2
  clear hA0 hval0
  refine (walk a0 len0 cap0 a1 len1 cap1 z1 a2 W w0 w1 w2).mono fun e W' ⟨he, bel⟩ => ?_
  subst he
  exact ⟨_, rfl, _, _, _, [], _, [], hW', trodAll_mk1 (shut_bool Try.underlying4 _), (trodAll_cons_mk (Below.trod laidOut (by kernel_rfl) (of_decide_eq_true (by kernel_rfl)) k0 bel lt0) (trodAll_cons_mk (Below.trod laidOut (by kernel_rfl) (of_decide_eq_true (by kernel_rfl)) k1 bel lt1) (trodAll_cons_mk (Below.trod laidOut (by kernel_rfl) (of_decide_eq_true (by kernel_rfl)) k2 bel lt2) trodAll_mk0))), rfl, bel.frame _, fun h => by cases h⟩

theorem over : Rows.slabOthersRow.holds Try.pinned (OpenSpec.ofChange Rows.slabOthersSpec) :=
  OpenClaim.holds_of_wide 7 Try.f7 rfl rfl rfl rfl rfl rfl rfl ⟨rfl, rfl, rfl, rfl, rfl⟩ rfl rfl rfl rfl rfl (by kernel_rfl) Try.func7 (by kernel_rfl)
    (of_decide_eq_true (by kernel_rfl)) (by unfold Func.isWrapper; first | (rw [if_pos (by decide +kernel)]; kernel_rfl) | (rw [if_neg (by decide +kernel)]; exact ⟨rfl, rfl⟩))
    (fun os started H enc _ => lifted os started H enc)

/-- THE STATEMENT -/
theorem slabOthers_holds : Rows.SlabOthersSaid := over
#print axioms slabOthers_holds
end Go.Proofs.Ytbchegbamcigkaa.slabOthers
