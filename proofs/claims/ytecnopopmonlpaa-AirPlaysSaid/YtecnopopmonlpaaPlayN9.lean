/-
  AirPlays, in parts: there is none
-/
import Derived.Test.YtecnopopmonlpaaRows
import Derived.WalkKit
import Derived.Test.YtecnopopmonlpaaAll9
import Derived.Test.YtecnopopmonlpaaAwake9
import Derived.Test.YtecnopopmonlpaaOps9
import Derived.Test.YtecnopopmonlpaaAppG
import Derived.Test.YtecnopopmonlpaaSame
import Derived.ProofKit
import Derived.Deep.Cut
import Derived.Deep.CutRange
import Derived.Deep.CutBlock
import Derived.Below
namespace Go.Proofs.Ytecnopopmonlpaa
open Go.RowKit
set_option linter.unusedVariables false

theorem xor9 (x : UInt8) : Go.bits .xor .u8 (x.toNat : Int) 1 = ((x ^^^ 1).toNat : Int) := by
  have := u8_xor_nat x.toNat 1 x.toNat_lt (by omega)
  rw [show (1 : Int) = ((1 : Nat) : Int) from rfl, this]
  rfl

theorem own_head9 {w : World} {base : Nat} {a : Option Addr} {n c : Nat} {l : List UInt8} (h : Own w base (.slice a n c) l) (h0 : 0 < l.length) : ∃ g c', Value.slice a n c = .slice (some ⟨g, 0, none⟩) n c' := by
  rcases h.shape with ⟨_, rfl⟩ | ⟨g, cap, e, _⟩
  · cases h0
  · simp only [Value.slice.injEq] at e
    obtain ⟨rfl, rfl, rfl⟩ := e
    exact ⟨g, c, rfl⟩

set_option maxRecDepth 100000 in
set_option maxHeartbeats 16000000 in
theorem plays9_nil (n : Int) (A2 : Option Addr) (L2 C2 : Nat) (kq : Int) (w : World) (hn : n < 1 ∨ 2048 < n) (w1 : IsOps9 w A2 L2 C2) :
    Calls Try.prog 3 #[.int .i64 n, .slice A2 L2 C2, .int .i64 kq] w fun e w' => e = .returned (.bool true) ∧ Below w.heap.size w w' := by
  have HOPS := hid w1
  obtain ⟨ob1, ob2⟩ := w1.bounds
  have HN := hid hn
  clear w1 hn
  go_enter Try.func3, Try.ntmps3
  go_wp2_with fail
  refine (awake9_any w).mono ?_
  rintro e wa ⟨rfl, hba⟩
  have HBA := hid hba
  have hsa := hba.size
  clear hba
  go_wp2_with fail
  refine (airnew_no n wa HN.out).mono ?_
  rintro e w1 ⟨rfl, rfl⟩
  go_wp2_with fail
  refine (refanew_no n wa HN.out).mono ?_
  rintro e w2 ⟨rfl, rfl⟩
  go_wp2_with fail
  go_loopw [64] (fun i wr => ∃ (k : Nat), k ≤ L2 ∧ k ≤ 80 ∧ i = .int .i64 k ∧ Below w.heap.size w wr) (fun i _ => L2 - (intOf i).toNat)
  case atStart => exact ⟨0, by omega, by omega, rfl, HBA.out⟩
  case round =>
    obtain ⟨k, hk1, hk2, rfl, hB⟩ := hrel
    have HB := hid hB
    have hsr := hB.size
    clear hB
    by_cases hlt : k < L2
    · obtain ⟨ob, off, eA, hob, d, id, tq, A, L, C, t, f0, f1, f2, f3, hd, m40, l1, l2, l3, l4, hrd⟩ := HOPS.out.at k hlt
      subst eA
      have hcell0 := (HB.out.cell (p := ⟨ob, off + k * 4, none⟩) hob).trans f0
      have hcell1 := (HB.out.cell (p := ⟨ob, off + (k * 4 + 1), none⟩) hob).trans f1
      have hcell2 := (HB.out.cell (p := ⟨ob, off + (k * 4 + 2), none⟩) hob).trans f2
      have hcell3 := (HB.out.cell (p := ⟨ob, off + (k * 4 + 3), none⟩) hob).trans f3
      rw [← Nat.add_assoc] at hcell1 hcell2 hcell3
      have HRD0 := hid hrd
      have jC : (t.length : Int) ≤ (C : Int) := by omega
      have hlen : t.length ≤ 40 := l4
      clear f0 f1 f2 f3 hrd
      by_cases h80 : k < 80
      · have h80i : (k : Int) < 80 := by omega
        have hA3 : (wr.alloc (.cells #[.int .u8 (d : Int), .int .u64 (id : Int), .int .i64 tq, .slice A L C] 36)).cell? ⟨wr.heap.size, 3, none⟩ = some (.slice A L C) := (cell_of_row _ _ _ _ _ _ (heap_alloc_new wr _)).trans rfl
        go_upto_region 11 with fail
        obtain ⟨wo, hwo⟩ : ∃ wo, wo = wr.alloc (.cells #[.int .u8 (d : Int), .int .u64 (id : Int), .int .i64 tq, .slice A L C] 36) := ⟨_, rfl⟩
        have HOB := hid (show wo.heap[wr.heap.size]? = some (.cells #[.int .u8 (d : Int), .int .u64 (id : Int), .int .i64 tq, .slice A L C] 36 (0, 0)) by rw [hwo]; exact heap_alloc_new wr _)
        have hbo : Below wr.heap.size wr wo := by rw [hwo]; exact (Below.refl _ _).alloc (Nat.le_refl _) _
        have HBO := hid hbo
        have hso2 : wr.heap.size < wo.heap.size := by rw [hwo]; simp
        have hy3 : wo.cell? ⟨wr.heap.size, 3, none⟩ = some (.slice A L C) := (cell_of_row _ _ _ _ _ _ HOB.out).trans rfl
        rw [← hwo]
        obtain ⟨gx, hgx⟩ : ∃ gx, gx = wr.heap.size := ⟨_, rfl⟩
        rw [← hgx] at HOB hso2 hy3
        rw [← hgx]
        have HGX := hid hgx
        have HE := hid (Own.empty wo wo.heap.size (Nat.le_refl _))
        have HP := hid (show ∀ W, Below w.heap.size w W → Rd W (.slice A t.length C) t from fun W hW => HRD0.out.below hW)
        have HBo := hid (HB.out.trans (hbo.mono HB.out.size))
        have hso : w.heap.size ≤ wo.heap.size := HBo.out.size
        have HPe := hid ((HP.out wo HBo.out).alloc (.cells #[] 5))
        obtain ⟨dd, hdd⟩ : ∃ dd, dd = d := ⟨_, rfl⟩
        have HDD := hid hdd
        clear hwo hbo hA3 hdd hcell0 hcell1 hcell2 hcell3 hgx
        go_upto_block 2 with (first | (at_builtin; (refine appw (by rfl) (.tmp 80) (.tmp 81) rfl wo.heap.size (.slice (some ⟨wo.heap.size, 0, none⟩) 0 0) _ [] t t t.length rfl rfl HE.out HPe.out (by simp) rfl (by simp; omega) (by simp) ?_); intro ad2 cp2 wm ho2 hg2; have Qm := hid ho2; have HNm := hid (((Below.refl wo.heap.size wo).alloc (Nat.le_refl _) (.cells #[] 5)).grown hg2 (by simp) (fun k hk => by have : wo.heap.size = k := Option.some.inj hk; omega)); have hs2 := HNm.out.size; have HOBm := hid ((HNm.out.block gx hso2).trans HOB.out); have e0 : wm.cell? ⟨gx, 0, none⟩ = some (.int .u8 (dd : Int)) := (cell_of_row _ _ _ _ _ _ HOBm.out).trans (by rw [HDD.out]; rfl); clear ho2 hg2; skip) | fail)
        have e1 : wm.cell? ⟨gx, 1, none⟩ = some (.int .u64 (id : Int)) := (cell_of_row _ _ _ _ _ _ HOBm.out).trans rfl
        have e2 : wm.cell? ⟨gx, 2, none⟩ = some (.int .i64 tq) := (cell_of_row _ _ _ _ _ _ HOBm.out).trans rfl
        have HBM := hid (HBo.out.trans (HNm.out.mono hso))
        have hsm : w.heap.size ≤ wm.heap.size := HBM.out.size
        clear hy3
        go_cut [15] from 85 to 216 (fun v15 wx => v15 = .bool true ∧ Below w.heap.size w wx)
        case first =>
          have hparts : dd = 0 ∨ dd = 1 ∨ dd = 2 ∨ dd = 3 ∨ dd = 4 ∨ dd = 5 ∨ 5 < dd := by omega
          rcases hparts with hdq | hdq | hdq | hdq | hdq | hdq | hdq
          · as_aux_lemma =>
              subst hdq
              go_wp2_with fail
              refine (fly_nil tq _ wm).mono ?_
              rintro e w5 ⟨rfl, k5⟩
              have Q5 := hid (Qm.out.below k5)
              have B5 := hid (HBM.out.trans (k5.mono hsm))
              have hs5 := k5.size
              have X5 := hid ((k5.block gx (Nat.lt_of_lt_of_le hso2 hs2)).trans HOBm.out)
              have c2 : w5.cell? ⟨gx, 2, none⟩ = some (.int .i64 tq) := (cell_of_row _ _ _ _ _ _ X5.out).trans rfl
              clear k5
              go_wp2_with fail
              refine (reffly_nil tq _ w5).mono ?_
              rintro e w6 ⟨rfl, k6⟩
              have Q6 := hid (Q5.out.below k6)
              have B6 := hid (B5.out.trans (k6.mono (by omega)))
              clear k6
              go_wp2_with fail
              refine (same_any _ _ t t w6 Q6.out.rd (HP.out w6 B6.out)).mono ?_
              rintro e w' ⟨rfl, rfl⟩
              rw [show (t == t) = true by simp]
              go_wp2_with fail
              go_loopw [123] (fun j' wi => ∃ (m : Nat) (l' : List UInt8), m ≤ t.length ∧ j' = .int .i64 m ∧ l'.length = t.length ∧ Own wi wo.heap.size (.slice ad2 t.length cp2) l' ∧ Keeps (fun j => (Value.slice ad2 t.length cp2).ownBlock = some j) w6 wi) (fun j' _ => t.length - (intOf j').toNat)
              case atStart => exact ⟨0, t, Nat.zero_le _, rfl, rfl, Q6.out, Keeps.refl _ _⟩
              case round =>
                obtain ⟨m, l', hm, rfl, hl', hown, hki⟩ := hrel
                have HOI := hid hown
                have HKI := hid hki
                have HL' := hid hl'
                clear hown hki hl'
                by_cases hml : m < t.length
                · obtain ⟨gg, cc, egg⟩ := own_head9 HOI.out (by have := HL'.out; omega)
                  simp only [Value.slice.injEq] at egg
                  obtain ⟨eg1, eg2, eg3⟩ := egg
                  clear eg2
                  subst eg1 eg3
                  have i1 := HOI.out.cell m (by have := HL'.out; omega)
                  have i2 := HOI.out.frozen m
                  obtain ⟨i30, i31, i32⟩ := HOI.out.caps
                  obtain ⟨x, hx⟩ : ∃ x, x = l'.getD m 0 := ⟨_, rfl⟩
                  rw [← hx] at i1
                  unfold bv at i1
                  have HST2 := hid (HOI.out.stored m (x ^^^ 1) _ (xor9 x))
                  have hmli : (m : Int) < (t.length : Int) := by omega
                  clear hx i30
                  go_wp2_with fail
                  go_roundw
                  case rel => exact ⟨m + 1, _, by omega, by go_num, by rw [List.length_set]; exact HL'.out, HST2.out, HKI.out.trans ((kset _ gg _ _).mono (fun q _ e => by subst e; rfl))⟩
                  case measure => simp [intOf]; omega
                · obtain rfl : m = t.length := by omega
                  have B7 := hid (B6.out.trans (HKI.out.below B6.out.size (fun q hq => by have := (Q6.out.lt q hq).1; omega)))
                  go_wp2_with fail
                  go_meet
                  case rel => exact ⟨rfl, B7.out⟩
          · as_aux_lemma =>
              subst hdq
              go_wp2_with fail
              refine (fly_nil tq _ wm).mono ?_
              rintro e w5 ⟨rfl, k5⟩
              have Q5 := hid (Qm.out.below k5)
              have B5 := hid (HBM.out.trans (k5.mono hsm))
              have hs5 := k5.size
              have X5 := hid ((k5.block gx (Nat.lt_of_lt_of_le hso2 hs2)).trans HOBm.out)
              have c2 : w5.cell? ⟨gx, 2, none⟩ = some (.int .i64 tq) := (cell_of_row _ _ _ _ _ _ X5.out).trans rfl
              clear k5
              go_wp2_with fail
              refine (reffly_nil tq _ w5).mono ?_
              rintro e w6 ⟨rfl, k6⟩
              have Q6 := hid (Q5.out.below k6)
              have B6 := hid (B5.out.trans (k6.mono (by omega)))
              clear k6
              go_wp2_with fail
              refine (same_any _ _ t t w6 Q6.out.rd (HP.out w6 B6.out)).mono ?_
              rintro e w' ⟨rfl, rfl⟩
              rw [show (t == t) = true by simp]
              go_wp2_with fail
              go_loopw [123] (fun j' wi => ∃ (m : Nat) (l' : List UInt8), m ≤ t.length ∧ j' = .int .i64 m ∧ l'.length = t.length ∧ Own wi wo.heap.size (.slice ad2 t.length cp2) l' ∧ Keeps (fun j => (Value.slice ad2 t.length cp2).ownBlock = some j) w6 wi) (fun j' _ => t.length - (intOf j').toNat)
              case atStart => exact ⟨0, t, Nat.zero_le _, rfl, rfl, Q6.out, Keeps.refl _ _⟩
              case round =>
                obtain ⟨m, l', hm, rfl, hl', hown, hki⟩ := hrel
                have HOI := hid hown
                have HKI := hid hki
                have HL' := hid hl'
                clear hown hki hl'
                by_cases hml : m < t.length
                · obtain ⟨gg, cc, egg⟩ := own_head9 HOI.out (by have := HL'.out; omega)
                  simp only [Value.slice.injEq] at egg
                  obtain ⟨eg1, eg2, eg3⟩ := egg
                  clear eg2
                  subst eg1 eg3
                  have i1 := HOI.out.cell m (by have := HL'.out; omega)
                  have i2 := HOI.out.frozen m
                  obtain ⟨i30, i31, i32⟩ := HOI.out.caps
                  obtain ⟨x, hx⟩ : ∃ x, x = l'.getD m 0 := ⟨_, rfl⟩
                  rw [← hx] at i1
                  unfold bv at i1
                  have HST2 := hid (HOI.out.stored m (x ^^^ 1) _ (xor9 x))
                  have hmli : (m : Int) < (t.length : Int) := by omega
                  clear hx i30
                  go_wp2_with fail
                  go_roundw
                  case rel => exact ⟨m + 1, _, by omega, by go_num, by rw [List.length_set]; exact HL'.out, HST2.out, HKI.out.trans ((kset _ gg _ _).mono (fun q _ e => by subst e; rfl))⟩
                  case measure => simp [intOf]; omega
                · obtain rfl : m = t.length := by omega
                  have B7 := hid (B6.out.trans (HKI.out.below B6.out.size (fun q hq => by have := (Q6.out.lt q hq).1; omega)))
                  go_wp2_with fail
                  go_meet
                  case rel => exact ⟨rfl, B7.out⟩
          · as_aux_lemma =>
              subst hdq
              go_wp2_with fail
              refine (land_nil id wm).mono ?_
              rintro e w5 ⟨rfl, k5⟩
              have B5 := hid (HBM.out.trans (k5.mono hsm))
              have hs5 := k5.size
              have X5 := hid ((k5.block gx (Nat.lt_of_lt_of_le hso2 hs2)).trans HOBm.out)
              clear k5
              obtain ⟨w5a, hw5⟩ : ∃ w5a, w5a = w5.alloc (.cells #[.int .i64 0, .slice none 0 0] 34) := ⟨_, rfl⟩
              have hb5a : Below w5.heap.size w5 w5a := by rw [hw5]; exact (Below.refl _ _).alloc (Nat.le_refl _) _
              have G5a := hid (show w5a.heap[w5.heap.size]? = some (.cells #[.int .i64 0, .slice none 0 0] 34 (0, 0)) by rw [hw5]; exact heap_alloc_new w5 _)
              have X5a := hid ((hb5a.block gx (by have := (Array.getElem?_eq_some_iff.1 X5.out).1; exact this)).trans X5.out)
              have hs5a := hb5a.size
              have B5a := hid (B5.out.trans (hb5a.mono (by omega)))
              have y1 : w5a.cell? ⟨gx, 1, none⟩ = some (.int .u64 (id : Int)) := (cell_of_row _ _ _ _ _ _ X5a.out).trans rfl
              rw [hw5] at y1
              clear hb5a
              go_wp2_with fail
              rw [← hw5]
              obtain ⟨g5, hg5⟩ : ∃ g5, g5 = w5.heap.size := ⟨_, rfl⟩
              rw [← hg5] at G5a
              rw [← hg5]
              clear hg5 hw5 y1
              refine (refland_nil id w5a).mono ?_
              rintro e w6 ⟨rfl, k6⟩
              have B6 := hid (B5a.out.trans (k6.mono (by omega)))
              have hs6 := k6.size
              have G6 := hid ((k6.block g5 (Array.getElem?_eq_some_iff.1 G5a.out).1).trans G5a.out)
              clear k6
              obtain ⟨w6a, hw6⟩ : ∃ w6a, w6a = w6.alloc (.cells #[.int .i64 0, .slice none 0 0] 34) := ⟨_, rfl⟩
              have hb6a : Below w6.heap.size w6 w6a := by rw [hw6]; exact (Below.refl _ _).alloc (Nat.le_refl _) _
              have G6a := (hb6a.block g5 (Array.getElem?_eq_some_iff.1 G6.out).1).trans G6.out
              have G6b : w6a.heap[w6.heap.size]? = some (.cells #[.int .i64 0, .slice none 0 0] 34 (0, 0)) := by rw [hw6]; exact heap_alloc_new w6 _
              have p0 : w6a.cell? ⟨g5, 0, none⟩ = some (.int .i64 0) := (cell_of_row _ _ _ _ _ _ G6a).trans rfl
              have p1 : w6a.cell? ⟨g5, 1, none⟩ = some (.slice none 0 0) := (cell_of_row _ _ _ _ _ _ G6a).trans rfl
              have p2 : w6a.cell? ⟨w6.heap.size, 0, none⟩ = some (.int .i64 0) := (cell_of_row _ _ _ _ _ _ G6b).trans rfl
              have p3 : w6a.cell? ⟨w6.heap.size, 1, none⟩ = some (.slice none 0 0) := (cell_of_row _ _ _ _ _ _ G6b).trans rfl
              have hs6a := hb6a.size
              have B6a := hid (B6.out.trans (hb6a.mono (by omega)))
              clear hb6a G6a G6b
              rw [hw6] at p0 p1 p2 p3
              go_wp2_with fail
              rw [← hw6]
              clear p0 p1 p2 p3
              refine (same9_any 0 0 _ _ [] [] w6a (Rd.nil _) (Rd.nil _) rfl rfl).mono ?_
              rintro e w7 ⟨rfl, b7⟩
              have B7 := hid (B6a.out.trans (b7.mono (by omega)))
              clear b7
              go_wp2_with fail
              go_meet
              case rel => exact ⟨rfl, B7.out⟩
          · as_aux_lemma =>
              subst hdq
              go_wp2_with fail
              refine (echo_nil id wm).mono ?_
              rintro e w5 ⟨rfl, rfl⟩
              go_wp2_with fail
              refine (reffind_nil id _).mono ?_
              rintro e w5 ⟨rfl, rfl⟩
              go_wp2_with fail
              go_meet
              case rel => exact ⟨rfl, HBM.out⟩
          · as_aux_lemma =>
              subst hdq
              go_wp2_with fail
              refine (refland_nil id wm).mono ?_
              rintro e w5 ⟨rfl, k5⟩
              have B5 := hid (HBM.out.trans (k5.mono hsm))
              have hs5 := k5.size
              have X5 := hid ((k5.block gx (Nat.lt_of_lt_of_le hso2 hs2)).trans HOBm.out)
              have hb5a : Below w5.heap.size w5 (w5.alloc (.cells #[.int .i64 0, .slice none 0 0] 34)) := (Below.refl _ _).alloc (Nat.le_refl _) _
              have c1 : (w5.alloc (.cells #[.int .i64 0, .slice none 0 0] 34)).cell? ⟨gx, 1, none⟩ = some (.int .u64 (id : Int)) := (cell_of_row _ _ _ _ _ _ ((hb5a.block gx (Array.getElem?_eq_some_iff.1 X5.out).1).trans X5.out)).trans rfl
              have B5a := hid (B5.out.trans (hb5a.mono (by omega)))
              clear k5 hb5a
              go_wp2_with fail
              refine (lose_nil id _).mono ?_
              rintro e w6 ⟨rfl, rfl⟩
              go_wp2_with fail
              go_meet
              case rel => exact ⟨rfl, B5a.out⟩
          · as_aux_lemma =>
              subst hdq
              go_wp2_with fail
              refine (clear_nil wm).mono ?_
              rintro e w5 ⟨rfl, rfl⟩
              go_wp2_with fail
              go_meet
              case rel => exact ⟨rfl, HBM.out⟩
          · as_aux_lemma =>
              have hz0 : ((dd : Int) == 0) = false := by rw [beq_eq_false_iff_ne]; omega
              have hz1 : ((dd : Int) == 1) = false := by rw [beq_eq_false_iff_ne]; omega
              have hz2 : ((dd : Int) == 2) = false := by rw [beq_eq_false_iff_ne]; omega
              have hz3 : ((dd : Int) == 3) = false := by rw [beq_eq_false_iff_ne]; omega
              have hz4 : ((dd : Int) == 4) = false := by rw [beq_eq_false_iff_ne]; omega
              have hz5 : ((dd : Int) == 5) = false := by rw [beq_eq_false_iff_ne]; omega
              go_wp2_with fail
              go_meet
              case rel => exact ⟨rfl, HBM.out⟩
        case rest =>
          as_aux_lemma =>
            obtain ⟨rfl, hbc⟩ := hcut
            have HBC := hid hbc
            clear hbc
            go_wp2_with fail
            refine (oldest_nil _).mono ?_
            rintro e w' ⟨rfl, rfl⟩
            go_wp2_with fail
            refine (airlen_nil _).mono ?_
            rintro e w' ⟨rfl, rfl⟩
            go_wp2_with fail
            refine wp_loop_rounds 1 ?_
            rw [rounds_succ]
            go_wp2_with fail
            refine (at_nil kq _).mono ?_
            rintro e w' ⟨rfl, rfl⟩
            by_cases hk0 : 0 ≤ kq
            · have hk9 : ¬ kq < 0 := by omega
              go_wp2_with fail
              go_roundw
              case rel => exact ⟨k + 1, by omega, by omega, by go_num, HBC.out⟩
              case measure => simp [intOf]; omega
            · go_wp2_with fail
              go_roundw
              case rel => exact ⟨k + 1, by omega, by omega, by go_num, HBC.out⟩
              case measure => simp [intOf]; omega
      · have hge : (80 : Int) ≤ (k : Int) := by omega
        go_wp2
        go_ret
        exact ⟨rfl, HB.out.alloc HB.out.size _⟩
    · obtain rfl : k = L2 := by omega
      go_wp2
      go_ret
      exact ⟨rfl, HB.out⟩

end Go.Proofs.Ytecnopopmonlpaa
