/-
  AirPlays, in parts: there is an air
-/
import Derived.Test.YtecnopopmonlpaaRows
import Derived.WalkKit
import Derived.Test.YtecnopopmonlpaaAll9
import Derived.Test.YtecnopopmonlpaaAwake9
import Derived.Test.YtecnopopmonlpaaOps9
import Derived.Test.YtecnopopmonlpaaAppG
import Derived.Test.YtecnopopmonlpaaSame
import Derived.ProofKit
import Derived.Deep.Cut
import Derived.Deep.CutRange
import Derived.Deep.CutBlock
import Derived.Below
namespace Go.Proofs.Ytecnopopmonlpaa
open Go.RowKit
set_option linter.unusedVariables false

theorem xor9 (x : UInt8) : Go.bits .xor .u8 (x.toNat : Int) 1 = ((x ^^^ 1).toNat : Int) := by
  have := u8_xor_nat x.toNat 1 x.toNat_lt (by omega)
  rw [show (1 : Int) = ((1 : Nat) : Int) from rfl, this]
  rfl

theorem own_head9 {w : World} {base : Nat} {a : Option Addr} {n c : Nat} {l : List UInt8} (h : Own w base (.slice a n c) l) (h0 : 0 < l.length) : ∃ g c', Value.slice a n c = .slice (some ⟨g, 0, none⟩) n c' := by
  rcases h.shape with ⟨_, rfl⟩ | ⟨g, cap, e, _⟩
  · cases h0
  · simp only [Value.slice.injEq] at e
    obtain ⟨rfl, rfl, rfl⟩ := e
    exact ⟨g, c, rfl⟩

theorem ArAt.cleared {w : World} {base : B9} {b : Nat} {TA TF : TypeId} {s : Ar} (h : ArAt w base b TA TF s) : ArAt (w.setCell ⟨b, 2, none⟩ (.slice none 0 0)) base b TA TF { s with l := [] } := by
  obtain ⟨fv, PF, hh⟩ := h
  obtain ⟨o1, o2, o3, o4, o5⟩ := hh.ok
  exact ⟨.slice none 0 0, [], hh.anew (PF' := []) (S := fun _ => True) (by rw [heap_setCell_same _ _ _ _ _ _ hh.head]; simp) (World.ownsRow_nil _ _ _ _) rfl (fun x hx => by cases hx) ⟨List.Pairwise.nil, (fun f hf => by cases hf), o3, Nat.zero_le _, (fun f hf => by cases hf)⟩ (fun x hx => by cases hx)⟩

theorem ArAt.clearKT {w : World} {base : B9} {b : Nat} {TA TF : TypeId} {s : Ar} {v : Value} (h : ArAt w base b TA TF s) (hb : base.n ≤ w.heap.size) : KT [TA, TF] base.n w (w.setCell ⟨b, 2, none⟩ v) := by
  obtain ⟨fv, PF, hh⟩ := h
  exact hh.ktS (kset _ _ _ _) (fun k _ e => .inl e) hb

set_option maxRecDepth 100000 in
set_option maxHeartbeats 16000000 in
theorem plays9_some (n : Nat) (A2 : Option Addr) (L2 C2 : Nat) (kq : Int) (w : World) (hn : 1 ≤ n ∧ n ≤ 2048) (w1 : IsOps9 w A2 L2 C2) :
    Calls Try.prog 3 #[.int .i64 (n : Int), .slice A2 L2 C2, .int .i64 kq] w fun e w' => e = .returned (.bool true) ∧ Below w.heap.size w w' := by
  have HOPS := hid w1
  obtain ⟨ob1, ob2⟩ := w1.bounds
  have HN := hid hn
  clear w1 hn
  go_enter Try.func3, Try.ntmps3
  go_wp2_with fail
  refine (awake9_any w).mono ?_
  rintro e wa ⟨rfl, hba⟩
  have HBA := hid hba
  have hsa := hba.size
  clear hba
  go_wp2_with fail
  refine (airnew_yes n wa w.heap.size hsa HN.out.1 HN.out.2).mono ?_
  rintro e w1 ⟨rfl, h1, hb1⟩
  have H1 := hid h1
  have hs1 := hb1.size
  have B1 := hid (HBA.out.trans (hb1.mono hsa))
  obtain ⟨b, hb⟩ : ∃ b, b = wa.heap.size := ⟨_, rfl⟩
  rw [← hb] at H1
  rw [← hb]
  clear h1 hb1 hb
  go_wp2_with fail
  refine (refanew_yes n w1 w.heap.size (show w.heap.size ≤ w1.heap.size by omega) HN.out.1 HN.out.2).mono ?_
  rintro e w2 ⟨rfl, h2, hb2⟩
  have R2 := hid h2
  have H2 := hid (H1.out.below hb2)
  have B2 := hid (B1.out.trans (hb2.mono (by omega)))
  obtain ⟨rb, hrb⟩ : ∃ rb, rb = w1.heap.size := ⟨_, rfl⟩
  rw [← hrb] at R2
  rw [← hrb]
  clear h2 hb2 hrb
  go_wp2_with fail
  go_loopw [64] (fun i wr => ∃ (k : Nat) (s : Ar), k ≤ L2 ∧ k ≤ 80 ∧ i = .int .i64 k ∧ AirAt wr w.heap.size b s ∧ RefAirAt wr w.heap.size rb s ∧ s.last ≤ k ∧ Below w.heap.size w wr) (fun i _ => L2 - (intOf i).toNat)
  case atStart => exact ⟨0, ⟨n, 0, []⟩, by omega, by omega, rfl, H2.out, R2.out, Nat.le_refl _, B2.out⟩
  case round =>
    obtain ⟨k, s, hk1, hk2, rfl, hA, hR, hst, hB⟩ := hrel
    have HA := hid hA
    have HR := hid hR
    clear hA hR
    have HB := hid hB
    have hsr := hB.size
    clear hB
    by_cases hlt : k < L2
    · obtain ⟨ob, off, eA, hob, d, id, tq, A, L, C, t, f0, f1, f2, f3, hd, m40, l1, l2, l3, l4, hrd⟩ := HOPS.out.at k hlt
      subst eA
      have hcell0 := (HB.out.cell (p := ⟨ob, off + k * 4, none⟩) hob).trans f0
      have hcell1 := (HB.out.cell (p := ⟨ob, off + (k * 4 + 1), none⟩) hob).trans f1
      have hcell2 := (HB.out.cell (p := ⟨ob, off + (k * 4 + 2), none⟩) hob).trans f2
      have hcell3 := (HB.out.cell (p := ⟨ob, off + (k * 4 + 3), none⟩) hob).trans f3
      rw [← Nat.add_assoc] at hcell1 hcell2 hcell3
      have HRD0 := hid hrd
      have jC : (t.length : Int) ≤ (C : Int) := by omega
      have hlen : t.length ≤ 40 := l4
      clear f0 f1 f2 f3 hrd
      by_cases h80 : k < 80
      · have h80i : (k : Int) < 80 := by omega
        have hA3 : (wr.alloc (.cells #[.int .u8 (d : Int), .int .u64 (id : Int), .int .i64 tq, .slice A L C] 36)).cell? ⟨wr.heap.size, 3, none⟩ = some (.slice A L C) := (cell_of_row _ _ _ _ _ _ (heap_alloc_new wr _)).trans rfl
        go_upto_region 11 with fail
        obtain ⟨wo, hwo⟩ : ∃ wo, wo = wr.alloc (.cells #[.int .u8 (d : Int), .int .u64 (id : Int), .int .i64 tq, .slice A L C] 36) := ⟨_, rfl⟩
        have HOB := hid (show wo.heap[wr.heap.size]? = some (.cells #[.int .u8 (d : Int), .int .u64 (id : Int), .int .i64 tq, .slice A L C] 36 (0, 0)) by rw [hwo]; exact heap_alloc_new wr _)
        have hbo : Below wr.heap.size wr wo := by rw [hwo]; exact (Below.refl _ _).alloc (Nat.le_refl _) _
        have HBO := hid hbo
        have hso2 : wr.heap.size < wo.heap.size := by rw [hwo]; simp
        have hy3 : wo.cell? ⟨wr.heap.size, 3, none⟩ = some (.slice A L C) := (cell_of_row _ _ _ _ _ _ HOB.out).trans rfl
        rw [← hwo]
        obtain ⟨gx, hgx⟩ : ∃ gx, gx = wr.heap.size := ⟨_, rfl⟩
        rw [← hgx] at HOB hso2 hy3
        rw [← hgx]
        have HGX := hid hgx
        have HE := hid (Own.empty wo wo.heap.size (Nat.le_refl _))
        have HP := hid (show ∀ W, Below w.heap.size w W → Rd W (.slice A t.length C) t from fun W hW => HRD0.out.below hW)
        have HBo := hid (HB.out.trans (hbo.mono HB.out.size))
        have hso : w.heap.size ≤ wo.heap.size := HBo.out.size
        have HPe := hid ((HP.out wo HBo.out).alloc (.cells #[] 5))
        obtain ⟨dd, hdd⟩ : ∃ dd, dd = d := ⟨_, rfl⟩
        have HDD := hid hdd
        clear hwo hbo hA3 hdd hcell0 hcell1 hcell2 hcell3 hgx
        go_upto_block 2 with (first | (at_builtin; (refine appw (by rfl) (.tmp 80) (.tmp 81) rfl wo.heap.size (.slice (some ⟨wo.heap.size, 0, none⟩) 0 0) _ [] t t t.length rfl rfl HE.out HPe.out (by simp) rfl (by simp; omega) (by simp) ?_); intro ad2 cp2 wm ho2 hg2; have Qm := hid ho2; have HNm := hid (((Below.refl wo.heap.size wo).alloc (Nat.le_refl _) (.cells #[] 5)).grown hg2 (by simp) (fun k hk => by have : wo.heap.size = k := Option.some.inj hk; omega)); have hs2 := HNm.out.size; have HOBm := hid ((HNm.out.block gx hso2).trans HOB.out); have e0 : wm.cell? ⟨gx, 0, none⟩ = some (.int .u8 (dd : Int)) := (cell_of_row _ _ _ _ _ _ HOBm.out).trans (by rw [HDD.out]; rfl); clear ho2 hg2; skip) | fail)
        have e1 : wm.cell? ⟨gx, 1, none⟩ = some (.int .u64 (id : Int)) := (cell_of_row _ _ _ _ _ _ HOBm.out).trans rfl
        have e2 : wm.cell? ⟨gx, 2, none⟩ = some (.int .i64 tq) := (cell_of_row _ _ _ _ _ _ HOBm.out).trans rfl
        have HBM := hid (HBo.out.trans (HNm.out.mono hso))
        have hsm : w.heap.size ≤ wm.heap.size := HBM.out.size
        clear hy3
        have HAm := hid (show AirAt wm ⟨w.heap.size, fun q => (Value.slice ad2 t.length cp2).ownBlock ≠ some q⟩ b s from ((HA.out.below HBO.out).avoid (v := (Value.slice ad2 t.length cp2)) (fun q hq => (Qm.out.lt q hq).1)).below HNm.out)
        have HRm := hid (show RefAirAt wm ⟨w.heap.size, fun q => (Value.slice ad2 t.length cp2).ownBlock ≠ some q⟩ rb s from ((HR.out.below HBO.out).avoid (v := (Value.slice ad2 t.length cp2)) (fun q hq => (Qm.out.lt q hq).1)).below HNm.out)
        have HPN := hid (show ∀ (W : World) (q : Nat), wm.heap.size ≤ W.heap.size → W.heap.size ≤ q → (Value.slice ad2 t.length cp2).ownBlock ≠ some q from fun W q h1 h2 e => by have := (Qm.out.lt q e).2; omega)
        have hst1 : s.last ≤ 1000000 := by omega
        go_cut [15] from 85 to 216 (fun v15 wx => v15 = .bool true ∧ ∃ s' : Ar, AirAt wx w.heap.size b s' ∧ RefAirAt wx w.heap.size rb s' ∧ s'.last ≤ k + 1 ∧ Below w.heap.size w wx)
        case first =>
          have hparts : dd = 0 ∨ dd = 1 ∨ dd = 2 ∨ dd = 3 ∨ dd = 4 ∨ dd = 5 ∨ 5 < dd := by omega
          rcases hparts with hdq | hdq | hdq | hdq | hdq | hdq | hdq
          · as_aux_lemma =>
              subst hdq
              go_wp2_with fail
              refine (airfly_all ⟨w.heap.size, fun q => (Value.slice ad2 t.length cp2).ownBlock ≠ some q⟩ b s tq ad2 cp2 t wm HAm.out hsm Qm.out.rd hst1 (by omega) (fun q hq => HPN.out wm q (Nat.le_refl _) hq)).mono ?_
              rintro e w5 ⟨rfl, h5, k5⟩
              have H5 := hid h5
              have K5 := hid k5
              have hs5 := k5.size
              have R5 := hid (HRm.out.kt k5 (by decide) (by decide) (by decide))
              have Q5 := hid (Qm.out.kt k5 (by decide))
              have B5 := hid (HBM.out.trans k5.below)
              have X5 := hid (k5.block HOBm.out (by decide))
              have c2 : w5.cell? ⟨gx, 2, none⟩ = some (.int .i64 tq) := (cell_of_row _ _ _ _ _ _ X5.out).trans rfl
              clear h5 k5
              go_wp2_with fail
              refine (reffly_all ⟨w.heap.size, fun q => (Value.slice ad2 t.length cp2).ownBlock ≠ some q⟩ rb s tq A C t w5 R5.out (show w.heap.size ≤ w5.heap.size by omega) (HP.out w5 B5.out) hst1 (by omega) (fun q hq => HPN.out w5 q hs5 hq)).mono ?_
              rintro e w6 ⟨rfl, h6, k6⟩
              have R6 := hid h6
              have H6 := hid (H5.out.kt k6 (by decide) (by decide) (by decide))
              have Q6 := hid (Q5.out.kt k6 (by decide))
              have B6 := hid (B5.out.trans k6.below)
              clear h6 k6
              go_wp2_with fail
              refine (same_any _ _ t t w6 Q6.out.rd (HP.out w6 B6.out)).mono ?_
              rintro e w' ⟨rfl, rfl⟩
              rw [show (t == t) = true by simp]
              go_wp2_with fail
              go_loopw [123] (fun j' wi => ∃ (m : Nat) (l' : List UInt8), m ≤ t.length ∧ j' = .int .i64 m ∧ l'.length = t.length ∧ Own wi wo.heap.size (.slice ad2 t.length cp2) l' ∧ Keeps (fun j => (Value.slice ad2 t.length cp2).ownBlock = some j) w6 wi) (fun j' _ => t.length - (intOf j').toNat)
              case atStart => exact ⟨0, t, Nat.zero_le _, rfl, rfl, Q6.out, Keeps.refl _ _⟩
              case round =>
                obtain ⟨m, l', hm, rfl, hl', hown, hki⟩ := hrel
                have HOI := hid hown
                have HKI := hid hki
                have HL' := hid hl'
                clear hown hki hl'
                by_cases hml : m < t.length
                · obtain ⟨gg, cc, egg⟩ := own_head9 HOI.out (by have := HL'.out; omega)
                  simp only [Value.slice.injEq] at egg
                  obtain ⟨eg1, eg2, eg3⟩ := egg
                  clear eg2
                  subst eg1 eg3
                  have i1 := HOI.out.cell m (by have := HL'.out; omega)
                  have i2 := HOI.out.frozen m
                  obtain ⟨i30, i31, i32⟩ := HOI.out.caps
                  obtain ⟨x, hx⟩ : ∃ x, x = l'.getD m 0 := ⟨_, rfl⟩
                  rw [← hx] at i1
                  unfold bv at i1
                  have HST2 := hid (HOI.out.stored m (x ^^^ 1) _ (xor9 x))
                  have hmli : (m : Int) < (t.length : Int) := by omega
                  clear hx i30
                  go_wp2_with fail
                  go_roundw
                  case rel => exact ⟨m + 1, _, by omega, by go_num, by rw [List.length_set]; exact HL'.out, HST2.out, HKI.out.trans ((kset _ gg _ _).mono (fun q _ e => by subst e; rfl))⟩
                  case measure => simp [intOf]; omega
                · obtain rfl : m = t.length := by omega
                  have H7 := hid ((H6.out.keepsOwn Q6.out HKI.out (by decide) (by decide)).weak)
                  have R7 := hid ((R6.out.keepsOwn Q6.out HKI.out (by decide) (by decide)).weak)
                  have B7 := hid (B6.out.trans (HKI.out.below B6.out.size (fun q hq => by have := (Q6.out.lt q hq).1; omega)))
                  go_wp2_with fail
                  go_meet
                  case rel => exact ⟨rfl, (s.flyS tq t).1, H7.out, R7.out, by have := flyS_last s tq t; omega, B7.out⟩
          · as_aux_lemma =>
              subst hdq
              go_wp2_with fail
              refine (airfly_all ⟨w.heap.size, fun q => (Value.slice ad2 t.length cp2).ownBlock ≠ some q⟩ b s tq ad2 cp2 t wm HAm.out hsm Qm.out.rd hst1 (by omega) (fun q hq => HPN.out wm q (Nat.le_refl _) hq)).mono ?_
              rintro e w5 ⟨rfl, h5, k5⟩
              have H5 := hid h5
              have K5 := hid k5
              have hs5 := k5.size
              have R5 := hid (HRm.out.kt k5 (by decide) (by decide) (by decide))
              have Q5 := hid (Qm.out.kt k5 (by decide))
              have B5 := hid (HBM.out.trans k5.below)
              have X5 := hid (k5.block HOBm.out (by decide))
              have c2 : w5.cell? ⟨gx, 2, none⟩ = some (.int .i64 tq) := (cell_of_row _ _ _ _ _ _ X5.out).trans rfl
              clear h5 k5
              go_wp2_with fail
              refine (reffly_all ⟨w.heap.size, fun q => (Value.slice ad2 t.length cp2).ownBlock ≠ some q⟩ rb s tq A C t w5 R5.out (show w.heap.size ≤ w5.heap.size by omega) (HP.out w5 B5.out) hst1 (by omega) (fun q hq => HPN.out w5 q hs5 hq)).mono ?_
              rintro e w6 ⟨rfl, h6, k6⟩
              have R6 := hid h6
              have H6 := hid (H5.out.kt k6 (by decide) (by decide) (by decide))
              have Q6 := hid (Q5.out.kt k6 (by decide))
              have B6 := hid (B5.out.trans k6.below)
              clear h6 k6
              go_wp2_with fail
              refine (same_any _ _ t t w6 Q6.out.rd (HP.out w6 B6.out)).mono ?_
              rintro e w' ⟨rfl, rfl⟩
              rw [show (t == t) = true by simp]
              go_wp2_with fail
              go_loopw [123] (fun j' wi => ∃ (m : Nat) (l' : List UInt8), m ≤ t.length ∧ j' = .int .i64 m ∧ l'.length = t.length ∧ Own wi wo.heap.size (.slice ad2 t.length cp2) l' ∧ Keeps (fun j => (Value.slice ad2 t.length cp2).ownBlock = some j) w6 wi) (fun j' _ => t.length - (intOf j').toNat)
              case atStart => exact ⟨0, t, Nat.zero_le _, rfl, rfl, Q6.out, Keeps.refl _ _⟩
              case round =>
                obtain ⟨m, l', hm, rfl, hl', hown, hki⟩ := hrel
                have HOI := hid hown
                have HKI := hid hki
                have HL' := hid hl'
                clear hown hki hl'
                by_cases hml : m < t.length
                · obtain ⟨gg, cc, egg⟩ := own_head9 HOI.out (by have := HL'.out; omega)
                  simp only [Value.slice.injEq] at egg
                  obtain ⟨eg1, eg2, eg3⟩ := egg
                  clear eg2
                  subst eg1 eg3
                  have i1 := HOI.out.cell m (by have := HL'.out; omega)
                  have i2 := HOI.out.frozen m
                  obtain ⟨i30, i31, i32⟩ := HOI.out.caps
                  obtain ⟨x, hx⟩ : ∃ x, x = l'.getD m 0 := ⟨_, rfl⟩
                  rw [← hx] at i1
                  unfold bv at i1
                  have HST2 := hid (HOI.out.stored m (x ^^^ 1) _ (xor9 x))
                  have hmli : (m : Int) < (t.length : Int) := by omega
                  clear hx i30
                  go_wp2_with fail
                  go_roundw
                  case rel => exact ⟨m + 1, _, by omega, by go_num, by rw [List.length_set]; exact HL'.out, HST2.out, HKI.out.trans ((kset _ gg _ _).mono (fun q _ e => by subst e; rfl))⟩
                  case measure => simp [intOf]; omega
                · obtain rfl : m = t.length := by omega
                  have H7 := hid ((H6.out.keepsOwn Q6.out HKI.out (by decide) (by decide)).weak)
                  have R7 := hid ((R6.out.keepsOwn Q6.out HKI.out (by decide) (by decide)).weak)
                  have B7 := hid (B6.out.trans (HKI.out.below B6.out.size (fun q hq => by have := (Q6.out.lt q hq).1; omega)))
                  go_wp2_with fail
                  go_meet
                  case rel => exact ⟨rfl, (s.flyS tq t).1, H7.out, R7.out, by have := flyS_last s tq t; omega, B7.out⟩
          · as_aux_lemma =>
              subst hdq
              go_wp2_with fail
              refine (airland_all ⟨w.heap.size, fun q => (Value.slice ad2 t.length cp2).ownBlock ≠ some q⟩ b id s wm HAm.out hsm).mono ?_
              rintro e w5 ⟨va, n1, vc, rfl, hr5, h5, k5⟩
              have RD5 := hid hr5
              have H5 := hid h5
              have K5 := hid k5
              have hs5 := k5.size
              have R5 := hid (HRm.out.kt k5 (by decide) (by decide) (by decide))
              have B5 := hid (HBM.out.trans k5.below)
              have X5 := hid (k5.block HOBm.out (by decide))
              clear hr5 h5 k5
              obtain ⟨lt, hlt2⟩ : ∃ lt, lt = (s.landS id).2.1 := ⟨_, rfl⟩
              obtain ⟨le, hle⟩ : ∃ le, le = (s.landS id).2.2.2 := ⟨_, rfl⟩
              obtain ⟨ll, hll⟩ : ∃ ll, ll = (s.landS id).2.2.1 := ⟨_, rfl⟩
              have HLT := hid hlt2
              have HLE := hid hle
              rw [← hll] at RD5
              rw [← hlt2, ← hle]
              have HLL := hid hll
              clear hlt2 hle hll
              obtain ⟨w5a, hw5⟩ : ∃ w5a, w5a = w5.alloc (.cells #[.int .i64 lt, .slice va n1 vc] 34) := ⟨_, rfl⟩
              have hb5a : Below w5.heap.size w5 w5a := by rw [hw5]; exact (Below.refl _ _).alloc (Nat.le_refl _) _
              have G5a := hid (show w5a.heap[w5.heap.size]? = some (.cells #[.int .i64 lt, .slice va n1 vc] 34 (0, 0)) by rw [hw5]; exact heap_alloc_new w5 _)
              have X5a := hid ((hb5a.block gx (by have := (Array.getElem?_eq_some_iff.1 X5.out).1; exact this)).trans X5.out)
              have c1 : w5a.cell? ⟨gx, 1, none⟩ = some (.int .u64 (id : Int)) := (cell_of_row _ _ _ _ _ _ X5a.out).trans rfl
              have hs5a := hb5a.size
              have H5a := hid (H5.out.below hb5a)
              have R5a := hid (R5.out.below hb5a)
              have RD5a := hid (RD5.out.below hb5a)
              have B5a := hid (B5.out.trans (hb5a.mono (by omega)))
              have y1 : w5a.cell? ⟨gx, 1, none⟩ = some (.int .u64 (id : Int)) := (cell_of_row _ _ _ _ _ _ X5a.out).trans rfl
              rw [hw5] at y1
              clear hb5a
              go_wp2_with fail
              rw [← hw5]
              obtain ⟨g5, hg5⟩ : ∃ g5, g5 = w5.heap.size := ⟨_, rfl⟩
              rw [← hg5] at G5a
              rw [← hg5]
              clear hg5 hw5 y1
              refine (refland_all ⟨w.heap.size, fun q => (Value.slice ad2 t.length cp2).ownBlock ≠ some q⟩ rb id s w5a R5a.out (show w.heap.size ≤ w5a.heap.size by omega)).mono ?_
              rintro e w6 ⟨vb, n2, vd, rfl, hr6, h6, k6⟩
              rw [← HLT.out, ← HLE.out]
              rw [← HLL.out] at hr6
              have RD6 := hid hr6
              have R6 := hid h6
              have H6 := hid (H5a.out.kt k6 (by decide) (by decide) (by decide))
              have B6 := hid (B5a.out.trans k6.below)
              have hs6 := k6.size
              have G6 := hid (k6.block G5a.out (by decide))
              clear hr6 h6
              have RDK := hid (RD5a.out.kt k6 (by decide))
              clear k6
              obtain ⟨w6a, hw6⟩ : ∃ w6a, w6a = w6.alloc (.cells #[.int .i64 lt, .slice vb n2 vd] 34) := ⟨_, rfl⟩
              have hb6a : Below w6.heap.size w6 w6a := by rw [hw6]; exact (Below.refl _ _).alloc (Nat.le_refl _) _
              have G6a := (hb6a.block g5 (Array.getElem?_eq_some_iff.1 G6.out).1).trans G6.out
              have G6b : w6a.heap[w6.heap.size]? = some (.cells #[.int .i64 lt, .slice vb n2 vd] 34 (0, 0)) := by rw [hw6]; exact heap_alloc_new w6 _
              have p0 : w6a.cell? ⟨g5, 0, none⟩ = some (.int .i64 lt) := (cell_of_row _ _ _ _ _ _ G6a).trans rfl
              have p1 : w6a.cell? ⟨g5, 1, none⟩ = some (.slice va n1 vc) := (cell_of_row _ _ _ _ _ _ G6a).trans rfl
              have p2 : w6a.cell? ⟨w6.heap.size, 0, none⟩ = some (.int .i64 lt) := (cell_of_row _ _ _ _ _ _ G6b).trans rfl
              have p3 : w6a.cell? ⟨w6.heap.size, 1, none⟩ = some (.slice vb n2 vd) := (cell_of_row _ _ _ _ _ _ G6b).trans rfl
              have hs6a := hb6a.size
              have B6a := hid (B6.out.trans (hb6a.mono (by omega)))
              have H6a := hid (H6.out.below hb6a)
              have R6a := hid (R6.out.below hb6a)
              have RA := hid (RDK.out.below hb6a).rd
              have RB := hid (RD6.out.below hb6a).rd
              clear hb6a G6a G6b
              rw [hw6] at p0 p1 p2 p3
              go_wp2_with fail
              rw [← hw6]
              clear p0 p1 p2 p3
              refine (same9_any lt lt _ _ ll ll w6a RA.out RB.out rfl rfl).mono ?_
              rintro e w7 ⟨rfl, b7⟩
              have H7 := hid ((H6a.out.below b7).weak)
              have R7 := hid ((R6a.out.below b7).weak)
              have B7 := hid (B6a.out.trans (b7.mono (by omega)))
              clear b7
              go_wp2_with fail
              go_meet
              case rel => exact ⟨rfl, (s.landS id).1, H7.out, R7.out, by have := landS_last s id; omega, B7.out⟩
          · as_aux_lemma =>
              subst hdq
              go_wp2_with fail
              refine (airecho_all ⟨w.heap.size, fun q => (Value.slice ad2 t.length cp2).ownBlock ≠ some q⟩ b id s wm HAm.out hsm hst1).mono ?_
              rintro e w5 ⟨rfl, h5, k5⟩
              have H5 := hid h5
              have hs5 := k5.size
              have R5 := hid (HRm.out.kt k5 (by decide) (by decide) (by decide))
              have B5 := hid (HBM.out.trans k5.below)
              have X5 := hid (k5.block HOBm.out (by decide))
              have c1 : w5.cell? ⟨gx, 1, none⟩ = some (.int .u64 (id : Int)) := (cell_of_row _ _ _ _ _ _ X5.out).trans rfl
              clear h5 k5
              cases hi : s.at id with
              | none =>
                have he : s.echoS id = (s, 0, 6) := by unfold Ar.echoS; rw [hi]
                rw [he] at H5
                rw [he]
                have HI := hid hi
                clear hi he
                go_wp2_with fail
                refine (reffind_none ⟨w.heap.size, fun q => (Value.slice ad2 t.length cp2).ownBlock ≠ some q⟩ rb id s w5 R5.out HI.out).mono ?_
                rintro e w6 ⟨rfl, b6⟩
                have H6 := hid ((H5.out.below b6).weak)
                have R6 := hid ((R5.out.below b6).weak)
                have B6 := hid (B5.out.trans (b6.mono (by omega)))
                clear b6
                go_wp2_with fail
                go_meet
                case rel => exact ⟨rfl, s, H6.out, R6.out, by omega, B6.out⟩
              | some i =>
                obtain ⟨h1, h2⟩ := at_some hi
                have he : s.echoS id = s.flyS (s.l.getD i ⟨0, 0, []⟩).to (s.l.getD i ⟨0, 0, []⟩).t := by unfold Ar.echoS; rw [hi]
                obtain ⟨x, hx⟩ : ∃ x, x = s.l.getD i ⟨0, 0, []⟩ := ⟨_, rfl⟩
                rw [← hx] at h1 h2 he
                rw [he] at H5
                rw [he]
                have HI := hid hi
                have H1 := hid h1
                have HXT := hid (show x.t.length ≤ 140737488355328 by obtain ⟨_, _, hh⟩ := R5.out; exact hh.ok.2.2.2.2 x (List.mem_of_getElem? h1))
                have hil : (i : Int) < (s.l.length : Int) := by have := (List.getElem?_eq_some_iff.1 h1).1; omega
                obtain ⟨U, hU⟩ : ∃ U, U = (s.flyS x.to x.t).2.1 := ⟨_, rfl⟩
                obtain ⟨G, hG⟩ : ∃ G, G = (s.flyS x.to x.t).2.2 := ⟨_, rfl⟩
                have HU := hid hU
                have HG := hid hG
                rw [← hU, ← hG]
                clear hi h1 h2 hx he hU hG
                go_wp2_with fail
                refine (reffind_some ⟨w.heap.size, fun q => (Value.slice ad2 t.length cp2).ownBlock ≠ some q⟩ rb id i s w5 R5.out HI.out).mono ?_
                rintro e w6 ⟨rfl, b6⟩
                have H6 := hid (H5.out.below b6)
                have r6 := R5.out.below b6
                have R6 := hid r6
                have hs6 := b6.size
                have B6 := hid (B5.out.trans (b6.mono (by omega)))
                obtain ⟨fv, PF, hh⟩ := r6
                obtain ⟨z0, z1, z2, zf⟩ := hh.cells
                obtain ⟨g, cap, va, vc, rfl, hc1, hc2, ho, hfr, hg, f0, f1, f2⟩ := hh.pick H1.out
                have HO := hid ho
                have hi0 : 0 ≤ (i : Int) := by omega
                clear b6 zf hh ho hfr
                go_wp2_with fail
                refine (reffly_all ⟨w.heap.size, fun q => (Value.slice ad2 t.length cp2).ownBlock ≠ some q⟩ rb s x.to va vc x.t w6 R6.out (show w.heap.size ≤ w6.heap.size by omega) HO.out.rd hst1 HXT.out (fun q hq => HPN.out w6 q (by omega) hq)).mono ?_
                rintro e w7 ⟨rfl, h7, k7⟩
                rw [← HU.out, ← HG.out]
                have R7 := hid h7.weak
                have H7 := hid ((H6.out.kt k7 (by decide) (by decide) (by decide)).weak)
                have B7 := hid (B6.out.trans k7.below)
                clear h7 k7
                go_wp2_with fail
                go_meet
                case rel => exact ⟨rfl, (s.flyS x.to x.t).1, H7.out, R7.out, by have := flyS_last s x.to x.t; omega, B7.out⟩
          · as_aux_lemma =>
              subst hdq
              go_wp2_with fail
              refine (refland_all ⟨w.heap.size, fun q => (Value.slice ad2 t.length cp2).ownBlock ≠ some q⟩ rb id s wm HRm.out hsm).mono ?_
              rintro e w5 ⟨va, n1, vc, rfl, hr5, h5, k5⟩
              have R5 := hid h5
              have hs5 := k5.size
              have H5 := hid (HAm.out.kt k5 (by decide) (by decide) (by decide))
              have B5 := hid (HBM.out.trans k5.below)
              have X5 := hid (k5.block HOBm.out (by decide))
              clear hr5 h5 k5
              obtain ⟨lt, hlt2⟩ : ∃ lt, lt = (s.landS id).2.1 := ⟨_, rfl⟩
              obtain ⟨le, hle⟩ : ∃ le, le = (s.landS id).2.2.2 := ⟨_, rfl⟩
              have HLE := hid hle
              rw [← hlt2, ← hle]
              clear hlt2 hle
              obtain ⟨w5a, hw5⟩ : ∃ w5a, w5a = w5.alloc (.cells #[.int .i64 lt, .slice va n1 vc] 34) := ⟨_, rfl⟩
              have hb5a : Below w5.heap.size w5 w5a := by rw [hw5]; exact (Below.refl _ _).alloc (Nat.le_refl _) _
              have X5a := hid ((hb5a.block gx (Array.getElem?_eq_some_iff.1 X5.out).1).trans X5.out)
              have c1 : w5a.cell? ⟨gx, 1, none⟩ = some (.int .u64 (id : Int)) := (cell_of_row _ _ _ _ _ _ X5a.out).trans rfl
              have hs5a := hb5a.size
              have H5a := hid (H5.out.below hb5a)
              have R5a := hid (R5.out.below hb5a)
              have B5a := hid (B5.out.trans (hb5a.mono (by omega)))
              rw [hw5] at c1
              clear hb5a
              go_wp2_with fail
              rw [← hw5]
              clear hw5 c1
              refine (airlose_all ⟨w.heap.size, fun q => (Value.slice ad2 t.length cp2).ownBlock ≠ some q⟩ b id s w5a H5a.out (show w.heap.size ≤ w5a.heap.size by omega)).mono ?_
              rintro e w6 ⟨rfl, h6, k6⟩
              rw [← HLE.out]
              have H6 := hid h6.weak
              have R6 := hid ((R5a.out.kt k6 (by decide) (by decide) (by decide)).weak)
              have B6 := hid (B5a.out.trans k6.below)
              clear h6 k6
              go_wp2_with fail
              go_meet
              case rel => exact ⟨rfl, (s.landS id).1, H6.out, R6.out, by have := landS_last s id; omega, B6.out⟩
          · as_aux_lemma =>
              subst hdq
              go_wp2_with fail
              refine (clear_any ⟨w.heap.size, fun q => (Value.slice ad2 t.length cp2).ownBlock ≠ some q⟩ b s wm HAm.out hsm).mono ?_
              rintro e w5 ⟨rfl, h5, k5⟩
              have H5 := hid h5
              have hs5 := k5.size
              have r5 := HRm.out.kt k5 (by decide) (by decide) (by decide)
              have R5 := hid r5
              have B5 := hid (HBM.out.trans k5.below)
              obtain ⟨fv, PF, hh⟩ := r5
              obtain ⟨z0, z1, z2, zf⟩ := hh.cells
              have zf2 := zf 2
              have HK6 := hid (show KT refTs w.heap.size w5 (w5.setCell ⟨rb, 2, none⟩ (.slice none 0 0)) from R5.out.clearKT (show w.heap.size ≤ w5.heap.size by omega))
              have R6 := hid (show RefAirAt (w5.setCell ⟨rb, 2, none⟩ (.slice none 0 0)) w.heap.size rb { s with l := [] } from R5.out.cleared.weak)
              have H6 := hid ((H5.out.kt HK6.out (by decide) (by decide) (by decide)).weak)
              have B6 := hid (B5.out.trans HK6.out.below)
              clear h5 k5 zf hh
              go_wp2_with fail
              go_meet
              case rel => exact ⟨rfl, { s with l := [] }, H6.out, R6.out, show s.last ≤ k + 1 by omega, B6.out⟩
          · as_aux_lemma =>
              have hz0 : ((dd : Int) == 0) = false := by rw [beq_eq_false_iff_ne]; omega
              have hz1 : ((dd : Int) == 1) = false := by rw [beq_eq_false_iff_ne]; omega
              have hz2 : ((dd : Int) == 2) = false := by rw [beq_eq_false_iff_ne]; omega
              have hz3 : ((dd : Int) == 3) = false := by rw [beq_eq_false_iff_ne]; omega
              have hz4 : ((dd : Int) == 4) = false := by rw [beq_eq_false_iff_ne]; omega
              have hz5 : ((dd : Int) == 5) = false := by rw [beq_eq_false_iff_ne]; omega
              go_wp2_with fail
              go_meet
              case rel => exact ⟨rfl, s, HAm.out.weak, HRm.out.weak, by omega, HBM.out⟩
        case rest =>
          as_aux_lemma =>
            obtain ⟨rfl, s2, hc, hrc, hsc, hbc⟩ := hcut
            have HC := hid hc
            have HRC := hid hrc
            have HBC := hid hbc
            obtain ⟨fv, PF, hh⟩ := hrc
            obtain ⟨z0, z1, z2, zf⟩ := hh.cells
            obtain ⟨fa, fc, efv, hc1, hc2⟩ := hh.shape
            subst efv
            have HH := hid hh
            have HSC := hid hsc
            clear hc hbc zf hh hsc
            by_cases hm0 : s2.l.length = 0
            · have hmz : (s2.l.length : Int) = 0 := by omega
              rw [hm0] at z2
              have HM0 := hid hm0
              clear hm0
              go_wp2_with fail
              refine (oldest_no _ b s2 _ HC.out HM0.out).mono ?_
              rintro e w' ⟨rfl, rfl⟩
              go_wp2_with fail
              refine (airlen_any _ b s2 _ HC.out).mono ?_
              rintro e w' ⟨rfl, rfl⟩
              rw [HM0.out]
              go_wp2_with fail
              refine wp_loop_rounds 1 ?_
              rw [rounds_succ]
              go_wp2_with fail
              by_cases hk0 : 0 ≤ kq
              · refine (at_no _ b kq s2 _ HC.out (.inr (by have := HM0.out; omega))).mono ?_
                rintro e w' ⟨rfl, rfl⟩
                have hk9 : ¬ kq < 0 := by omega
                go_wp2_with fail
                go_roundw
                case rel => exact ⟨k + 1, s2, by omega, by omega, by go_num, HC.out, HRC.out, HSC.out, HBC.out⟩
                case measure => simp [intOf]; omega
              · refine (at_no _ b kq s2 _ HC.out (.inl (by omega))).mono ?_
                rintro e w' ⟨rfl, rfl⟩
                go_wp2_with fail
                go_roundw
                case rel => exact ⟨k + 1, s2, by omega, by omega, by go_num, HC.out, HRC.out, HSC.out, HBC.out⟩
                case measure => simp [intOf]; omega
            · obtain ⟨x0, hx0⟩ : ∃ x0, s2.l[0]? = some x0 := ⟨_, List.getElem?_eq_getElem (by omega)⟩
              have HX0 := hid hx0
              obtain ⟨g, cap, va, vc, ev, hp1, hp2, _, _, _, f0, f1, f2⟩ := HH.out.pick hx0
              simp only [Value.slice.injEq] at ev
              obtain ⟨rfl, _, rfl⟩ := ev
              rw [Nat.zero_mul] at f0
              have hmp : (0 : Int) < (s2.l.length : Int) := by omega
              have hmn : ((s2.l.length : Int) == 0) = false := by rw [beq_eq_false_iff_ne]; omega
              have hmn2 : decide ((0 : Int) < (s2.l.length : Int)) = true := by simpa using hmp
              clear hx0 hm0 f1 f2
              go_wp2_with fail
              refine (oldest_yes _ b s2 x0 _ HC.out HX0.out).mono ?_
              rintro e w' ⟨rfl, rfl⟩
              go_wp2_with fail
              refine (airlen_any _ b s2 _ HC.out).mono ?_
              rintro e w' ⟨rfl, rfl⟩
              go_wp2_with fail
              clear f0
              go_loopw [265] (fun j' wi => ∃ m : Nat, m ≤ s2.l.length ∧ j' = .int .i64 m ∧ wi = wc) (fun j' _ => s2.l.length - (intOf j').toNat)
              case atStart => exact ⟨0, Nat.zero_le _, rfl, rfl⟩
              case round =>
                obtain ⟨m, hm, rfl, rfl⟩ := hrel
                by_cases hml : m < s2.l.length
                · obtain ⟨x, hx⟩ : ∃ x, s2.l[m]? = some x := ⟨_, List.getElem?_eq_getElem hml⟩
                  have HX := hid hx
                  obtain ⟨g', cap', va', vc', ev, _, _, _, _, _, f0, _, _⟩ := HH.out.pick hx
                  simp only [Value.slice.injEq, Option.some.injEq, Addr.mk.injEq] at ev
                  obtain ⟨⟨rfl, _⟩, _, rfl⟩ := ev
                  have hmi : (m : Int) < (s2.l.length : Int) := by omega
                  clear hx
                  go_wp2_with fail
                  refine (at_yes _ b m s2 x _ HC.out HX.out).mono ?_
                  rintro e w' ⟨rfl, rfl⟩
                  go_wp2_with fail
                  go_roundw
                  case rel => exact ⟨m + 1, hml, by go_num, trivial⟩
                  case measure => simp [intOf]; omega
                · obtain rfl : m = s2.l.length := by omega
                  go_wp2_with fail
                  by_cases hk0 : 0 ≤ kq
                  · obtain ⟨kk, rfl⟩ := Int.eq_ofNat_of_zero_le hk0
                    by_cases hkm : kk < s2.l.length
                    · obtain ⟨y, hy⟩ : ∃ y, s2.l[kk]? = some y := ⟨_, List.getElem?_eq_getElem hkm⟩
                      have HY := hid hy
                      have hkl : (kk : Int) < (s2.l.length : Int) := by omega
                      clear hy
                      refine (at_yes _ b kk s2 y _ HC.out HY.out).mono ?_
                      rintro e w' ⟨rfl, rfl⟩
                      go_wp2_with fail
                      go_roundw
                      case rel => exact ⟨k + 1, s2, by omega, by omega, by go_num, HC.out, HRC.out, HSC.out, HBC.out⟩
                      case measure => simp [intOf]; omega
                    · refine (at_no _ b (kk : Int) s2 _ HC.out (.inr (by omega))).mono ?_
                      rintro e w' ⟨rfl, rfl⟩
                      have hkl : ¬ (kk : Int) < (s2.l.length : Int) := by omega
                      have hkl2 : decide (kk < s2.l.length) = false := by simpa using hkm
                      go_wp2_with fail
                      go_roundw
                      case rel => exact ⟨k + 1, s2, by omega, by omega, by go_num, HC.out, HRC.out, HSC.out, HBC.out⟩
                      case measure => simp [intOf]; omega
                  · refine (at_no _ b kq s2 _ HC.out (.inl (by omega))).mono ?_
                    rintro e w' ⟨rfl, rfl⟩
                    go_wp2_with fail
                    go_roundw
                    case rel => exact ⟨k + 1, s2, by omega, by omega, by go_num, HC.out, HRC.out, HSC.out, HBC.out⟩
                    case measure => simp [intOf]; omega
      · have hge : (80 : Int) ≤ (k : Int) := by omega
        go_wp2
        go_ret
        exact ⟨rfl, HB.out.alloc HB.out.size _⟩
    · obtain rfl : k = L2 := by omega
      go_wp2
      go_ret
      exact ⟨rfl, HB.out⟩

end Go.Proofs.Ytecnopopmonlpaa
