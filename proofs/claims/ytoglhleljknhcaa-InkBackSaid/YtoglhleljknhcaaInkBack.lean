/-
  Whatever is written is read again, one by one, as what it was, to the end: quadrillelaw01.InkBack returns true for every input, without any condition.
  (The frame behind the walk is the guide's shell, at a slice of structs.)
-/
import Derived.Test.YtoglhleljknhcaaRows
import Derived.WalkKit
import Derived.Test.YtoglhleljknhcaaRefText
import Derived.Test.YtoglhleljknhcaaInkW
import Derived.ProofKit
import Derived.OpenShut
import Derived.ShutString
import Derived.ChangeOld
import Derived.Below
namespace Go.Proofs.Ytoglhleljknhcaa.inkBack
open Go.ChangeShapes Go.WideShapes Go.ChangeAt Go.RowKit
open Go.ChangeMaps (open_string shut_string)
set_option linter.unusedVariables false

theorem own : ownKnob Try.prog.godebug = none := by kernel_rfl
theorem laidOut : laidOutB Try.prog = true := by kernel_rfl

set_option maxRecDepth 100000 in
set_option maxHeartbeats 16000000 in
theorem walk (a0 : Option Addr) (len0 cap0 : Nat) (w : World) (w0 : IsOps w a0 len0 cap0) :
    Calls Try.prog 7 #[.slice a0 len0 cap0] w fun e w' => e = .returned (.bool true) ∧ Below w.heap.size w w' := by
  obtain ⟨hb1, hb2⟩ := w0.bounds
  by_cases hz : len0 = 0
  · subst hz
    go_enter Try.func7, Try.ntmps7
    go_wp2_with fail
    refine (awake1_any w).mono ?_
    rintro e w1 ⟨rfl, hb1⟩
    go_wp2_with fail
    refine (new_any w1).mono ?_
    rintro e w2 ⟨rfl, hp2, hb2, hs2⟩
    clear hs2
    have hB2 := hb1.trans (hb2.mono hb1.size)
    go_wp2_with fail
    refine wp_loop_rounds 1 ?_
    rw [rounds_succ]
    go_wp2_with fail
    refine (penbytes_any _ _ _ [] false w2 hp2 (by simp)).mono ?_
    rintro e w3 ⟨x3, rfl, ho3, hb3⟩
    have hB3 := hB2.trans (hb3.mono hB2.size)
    go_wp2_with fail
    refine (read_any _ [] w3 ho3.rd (by simp)).mono ?_
    rintro e w4 ⟨be, ve0, rfl, he4, hb4⟩
    have hB4 := hB3.trans (hb4.mono hB3.size)
    go_wp2_with fail
    refine wp_loop_rounds 1 ?_
    rw [rounds_succ]
    go_wp2_with fail
    refine (eyeend_good _ _ _ _ he4).mono ?_
    rintro e w9 ⟨rfl, rfl⟩
    go_wp2
    go_ret
    exact ⟨rfl, hB4⟩
  obtain ⟨b, off, rfl, hbw, hlist⟩ := w0.list (by omega) 50
  clear w0
  by_cases h6 : len0 ≤ 60
  · obtain ⟨os, hos1, hos⟩ := hlist (len0) (by omega)
    have HOL := hid hos1
    have HOS := hid hos
    have hl60 : len0 ≤ 60 := by omega
    have HLEN0 := hid (wroteAll_length os (fun r o h => by
      have hr : r < len0 := by rw [← hos1]; exact (List.getElem?_eq_some_iff.1 h).1
      obtain ⟨o', A, L, C, ho, _, _, _, _, _, _, _, _, hlen, _⟩ := hos r hr
      rw [ho] at h
      cases h
      omega))
    clear hos1 hos
    go_enter Try.func7, Try.ntmps7
    go_wp2_with fail
    refine (awake1_any w).mono ?_
    rintro e w1 ⟨rfl, hb1⟩
    go_wp2_with fail
    refine (new_any w1).mono ?_
    rintro e w2 ⟨rfl, hp2, hb2, hs2⟩
    have hB2 := hb1.trans (hb2.mono hb1.size)
    have hp0 : PenAt w2 w.heap.size w1.heap.size (.slice none 0 0) [] false := ⟨hp2.1, Own.nil _ _, hp2.2.2.1, hb1.size⟩
    clear hs2 hp2 hb2
    go_wp2_with fail
    go_loopw [20] (fun i wr => ∃ (j : Nat) (v : Value), j ≤ len0 ∧ i = .int .i64 j ∧ PenAt wr w.heap.size w1.heap.size v (wroteAll (os.take j)) false ∧ Below w.heap.size w wr) (fun i _ => len0 - (intOf i).toNat)
    case atStart => exact ⟨0, _, by omega, rfl, hp0, hB2⟩
    case round =>
      obtain ⟨j, v, hj, rfl, hp, hB⟩ := hrel
      have hln : (wroteAll (os.take j)).length ≤ 6600 := by
        have := HLEN0.out j (by rw [HOL.out]; exact hj)
        omega
      by_cases hlt : j < len0
      · obtain ⟨o, A, L, C, ho, hc0, hd, hc1, hn0, hn1, hc2, hLC, hC, hlen, hrd⟩ := HOS.out j hlt
        have hcell0 := (hB.cell (p := ⟨b, off + j * 3, none⟩) hbw).trans hc0
        have hcell1 := (hB.cell (p := ⟨b, off + (j * 3 + 1), none⟩) hbw).trans hc1
        have hcell2 := (hB.cell (p := ⟨b, off + (j * 3 + 2), none⟩) hbw).trans hc2
        rw [← Nat.add_assoc] at hcell1 hcell2
        clear hc0 hc1 hc2
        have hq : o.d % 4 = 0 ∨ o.d % 4 = 1 ∨ o.d % 4 = 2 ∨ o.d % 4 = 3 := by omega
        rcases hq with hq | hq | hq | hq
        · have HTK := hid (show wroteAll (os.take (j + 1)) = wroteAll (os.take j) ++ Ink.num (u64 o.n) by rw [wroteAll_take os j o ho, wrote0 o hq])
          have hqi : (o.d : Int) % 4 = 0 := by omega
          clear hq ho
          have hpa : PenAt (wr.alloc (.cells #[.int .u8 (o.d : Int), .int .i64 o.n, .slice A L C] 38)) w.heap.size w1.heap.size v (wroteAll (os.take j)) false := hp.below ((Below.refl _ _).alloc (Nat.le_refl _) _)
          have HLN := hid hln
          go_wp2_with fail
          refine (pennum_at _ w.heap.size v (wroteAll (os.take j)) (u64 o.n) _ (wrap_u64z _) (u64_lt _) _ hpa (by have := HLN.out; omega) (by have := hB.size; simp; omega)).mono ?_
          rintro e w2 ⟨rfl, v2, hp2, hk2, hf2⟩
          have hB2 : Below w.heap.size w w2 := (hB.alloc hB.size _).trans (PenAt.low hpa hk2 (fun _ h => h) (by have := hB.size; simp; omega))
          rw [← HTK.out] at hp2
          go_wp2_with fail
          go_roundw
          case rel => exact ⟨j + 1, v2, by omega, by go_num, hp2, hB2⟩
          case measure => simp [intOf]; omega
        · have HTK := hid (show wroteAll (os.take (j + 1)) = wroteAll (os.take j) ++ Ink.num (half o.n) by rw [wroteAll_take os j o ho, wrote1 o hq])
          have hqi : (o.d : Int) % 4 = 1 := by omega
          clear hq ho
          have hpa : PenAt (wr.alloc (.cells #[.int .u8 (o.d : Int), .int .i64 o.n, .slice A L C] 38)) w.heap.size w1.heap.size v (wroteAll (os.take j)) false := hp.below ((Below.refl _ _).alloc (Nat.le_refl _) _)
          have HLN := hid hln
          go_wp2_with fail
          refine (penint_at _ w.heap.size v (wroteAll (os.take j)) (half o.n) _ (half_eq _) (by have := half_lt o.n; omega) _ hpa (by have := HLN.out; omega) (by have := hB.size; simp; omega)).mono ?_
          rintro e w2 ⟨rfl, v2, hp2, hk2, hf2⟩
          have hB2 : Below w.heap.size w w2 := (hB.alloc hB.size _).trans (PenAt.low hpa hk2 (fun _ h => h) (by have := hB.size; simp; omega))
          rw [← HTK.out] at hp2
          go_wp2_with fail
          go_roundw
          case rel => exact ⟨j + 1, v2, by omega, by go_num, hp2, hB2⟩
          case measure => simp [intOf]; omega
        · have HTK := hid (show wroteAll (os.take (j + 1)) = wroteAll (os.take j) ++ Ink.num (if decide (0 < o.n) = true then 1 else 0) by rw [wroteAll_take os j o ho, wrote2 o hq])
          have hqi : (o.d : Int) % 4 = 2 := by omega
          clear hq ho
          have hpa : PenAt (wr.alloc (.cells #[.int .u8 (o.d : Int), .int .i64 o.n, .slice A L C] 38)) w.heap.size w1.heap.size v (wroteAll (os.take j)) false := hp.below ((Below.refl _ _).alloc (Nat.le_refl _) _)
          have HLN := hid hln
          go_wp2_with fail
          refine (penbool_good _ w.heap.size v (wroteAll (os.take j)) (decide (0 < o.n)) _ hpa (by have := HLN.out; omega) (by have := hB.size; simp; omega)).mono ?_
          rintro e w2 ⟨rfl, v2, hp2, hk2, hf2⟩
          have hB2 : Below w.heap.size w w2 := (hB.alloc hB.size _).trans (PenAt.low hpa hk2 (fun _ h => h) (by have := hB.size; simp; omega))
          rw [← HTK.out] at hp2
          go_wp2_with fail
          go_roundw
          case rel => exact ⟨j + 1, v2, by omega, by go_num, hp2, hB2⟩
          case measure => simp [intOf]; omega
        · have HTK := hid (show wroteAll (os.take (j + 1)) = wroteAll (os.take j) ++ Ink.text o.t by rw [wroteAll_take os j o ho, wrote3 o hq])
          have hqi : (o.d : Int) % 4 = 3 := by omega
          clear hq ho
          have hpa : PenAt (wr.alloc (.cells #[.int .u8 (o.d : Int), .int .i64 o.n, .slice A L C] 38)) w.heap.size w1.heap.size v (wroteAll (os.take j)) false := hp.below ((Below.refl _ _).alloc (Nat.le_refl _) _)
          have HLN := hid hln
          by_cases hL : L ≤ 50
          · rw [show min L 50 = L by omega] at hrd hlen
            have HLEN := hid hlen
            have hrd1 : Rd (wr.alloc (.cells #[.int .u8 (o.d : Int), .int .i64 o.n, .slice A L C] 38)) (.slice A (L) C) o.t := (hrd.below hB).alloc _
            have hsep : o.t = [] ∨ ∀ k, (Value.slice A (L) C).ownBlock = some k → ¬ penS w1.heap.size v k := by
              rcases Nat.eq_zero_or_pos (L) with h | h
              · exact .inl (List.eq_nil_of_length_eq_zero (by rw [hlen]; exact h))
              · right
                obtain ⟨b', off', ea, hb', _⟩ := hrd.cellsAt h
                intro k hk hs
                rw [ea] at hk
                simp [Value.ownBlock] at hk
                rcases hs with h' | h'
                · have := hpa.2.2.2; omega
                · have := (hpa.2.1.lt k h').1; omega
            clear hlen hrd
            go_wp2_with fail
            refine (pentext_at _ w.heap.size v (wroteAll (os.take j)) _ o.t _ hpa hrd1 hsep (by have := HLN.out; omega) (by rw [HLEN.out]; omega) (by have := hB.size; simp; omega)).mono ?_
            rintro e w2 ⟨rfl, v2, hp2, hk2, hf2⟩
            have hB2 : Below w.heap.size w w2 := (hB.alloc hB.size _).trans (PenAt.low hpa hk2 (fun _ h => h) (by have := hB.size; simp; omega))
            rw [← HTK.out] at hp2
            go_wp2_with fail
            go_roundw
            case rel => exact ⟨j + 1, v2, by omega, by go_num, hp2, hB2⟩
            case measure => simp [intOf]; omega
          · rw [show min L 50 = 50 by omega] at hrd hlen
            have HLEN := hid hlen
            have hrd1 : Rd (wr.alloc (.cells #[.int .u8 (o.d : Int), .int .i64 o.n, .slice A L C] 38)) (.slice A (50) C) o.t := (hrd.below hB).alloc _
            have hsep : o.t = [] ∨ ∀ k, (Value.slice A (50) C).ownBlock = some k → ¬ penS w1.heap.size v k := by
              rcases Nat.eq_zero_or_pos (50) with h | h
              · exact .inl (List.eq_nil_of_length_eq_zero (by rw [hlen]; exact h))
              · right
                obtain ⟨b', off', ea, hb', _⟩ := hrd.cellsAt h
                intro k hk hs
                rw [ea] at hk
                simp [Value.ownBlock] at hk
                rcases hs with h' | h'
                · have := hpa.2.2.2; omega
                · have := (hpa.2.1.lt k h').1; omega
            clear hlen hrd
            go_wp2_with fail
            refine (pentext_at _ w.heap.size v (wroteAll (os.take j)) _ o.t _ hpa hrd1 hsep (by have := HLN.out; omega) (by rw [HLEN.out]; omega) (by have := hB.size; simp; omega)).mono ?_
            rintro e w2 ⟨rfl, v2, hp2, hk2, hf2⟩
            have hB2 : Below w.heap.size w w2 := (hB.alloc hB.size _).trans (PenAt.low hpa hk2 (fun _ h => h) (by have := hB.size; simp; omega))
            rw [← HTK.out] at hp2
            go_wp2_with fail
            go_roundw
            case rel => exact ⟨j + 1, v2, by omega, by go_num, hp2, hB2⟩
            case measure => simp [intOf]; omega
      · obtain rfl : len0 = j := by omega
        skip
        have hfull : wroteAll (os.take (len0)) = wroteAll (os.drop 0) := by rw [List.take_of_length_le (by rw [HOL.out]; exact Nat.le_refl _), List.drop_zero]
        rw [hfull] at hp hln
        clear hfull
        go_wp2_with fail
        refine (penbytes_any _ _ v _ false wr hp (by omega)).mono ?_
        rintro e w3 ⟨x3, rfl, ho3, hb3⟩
        have hB3 := hB.trans (hb3.mono hB.size)
        go_wp2_with fail
        refine (read_any _ _ w3 ho3.rd (by omega)).mono ?_
        rintro e w4 ⟨be, ve0, rfl, he4, hb4⟩
        have hB4 := hB3.trans (hb4.mono hB3.size)
        have he0 : EyeSt w4 w.heap.size be ve0 (some (wroteAll (os.drop 0))) := he4.base hB3.size
        clear hp hln hB hb3 hB3 ho3 he4 hb4
        go_wp2_with fail
        go_loopw [65] (fun i wr => ∃ (j : Nat) (v : Value), j ≤ len0 ∧ i = .int .i64 j ∧ EyeSt wr w.heap.size be v (some (wroteAll (os.drop j))) ∧ Below w.heap.size w wr) (fun i _ => len0 - (intOf i).toNat)
        case atStart => exact ⟨0, _, by omega, rfl, he0, hB4⟩
        case round =>
          clear he0 hB4
          obtain ⟨j, v, hj, rfl, he, hB⟩ := hrel
          by_cases hlt : j < len0
          · obtain ⟨o, A, L, C, ho, hc0, hd, hc1, hn0, hn1, hc2, hLC, hC, hlen, hrd⟩ := HOS.out j hlt
            have hcell0 := (hB.cell (p := ⟨b, off + j * 3, none⟩) hbw).trans hc0
            have hcell1 := (hB.cell (p := ⟨b, off + (j * 3 + 1), none⟩) hbw).trans hc1
            have hcell2 := (hB.cell (p := ⟨b, off + (j * 3 + 2), none⟩) hbw).trans hc2
            rw [← Nat.add_assoc] at hcell1 hcell2
            clear hc0 hc1 hc2
            have hlim := hid (show ((some (wroteAll (os.drop j))).getD []).length ≤ 1000000 by
              have h1 := wroteAll_drop_le os j
              have h2 := HLEN0.out (len0) (by rw [HOL.out]; exact Nat.le_refl _)
              rw [List.take_of_length_le (by rw [HOL.out]; exact Nat.le_refl _)] at h2
              simp only [Option.getD_some]
              omega)
            have hq : o.d % 4 = 0 ∨ o.d % 4 = 1 ∨ o.d % 4 = 2 ∨ o.d % 4 = 3 := by omega
            rcases hq with hq | hq | hq | hq
            · have HTK := hid (show wroteAll (os.drop j) = Ink.num (u64 o.n) ++ wroteAll (os.drop (j + 1)) by rw [wroteAll_drop os j o ho, wrote0 o hq])
              have hqi : (o.d : Int) % 4 = 0 := by omega
              clear hq ho
              obtain ⟨wa, hwa⟩ : ∃ wa, wa = (wr.alloc (.cells #[.int .u8 (o.d : Int), .int .i64 o.n, .slice A L C] 38)) := ⟨_, rfl⟩
              have hea : EyeSt wa w.heap.size be v (some (wroteAll (os.drop j))) := by rw [hwa]; exact EyeAt.below he ((Below.refl _ _).alloc (Nat.le_refl _) _)
              have hBa : Below w.heap.size w wa := by rw [hwa]; exact hB.alloc hB.size _
              have hBd : Below w.heap.size w wa.drew := ⟨hBa.os, hBa.tape, hBa.output, hBa.size, hBa.block⟩
              have hsz : wr.heap.size < wa.heap.size := by rw [hwa]; simp
              have hne : wr.heap.size ≠ be := by have := EyeAt.lt he; omega
              have hA1 : wa.cell? ⟨wr.heap.size, 1, none⟩ = some (.int .i64 o.n) := by rw [hwa, cell_of_row _ _ _ _ _ _ (heap_alloc_new wr _)]; rfl
              have hA2 : wa.cell? ⟨wr.heap.size, 2, none⟩ = some (.slice A L C) := by rw [hwa, cell_of_row _ _ _ _ _ _ (heap_alloc_new wr _)]; rfl
              have hbase : w.heap.size ≤ be := hea.2.2.2
              rw [HTK.out] at hea
              have hcall := eyenum_st _ _ _ _ wa.drew (EyeSt.drew hea)
              rw [stNum_num _ _ (u64_lt _)] at hcall
              have HCALL := hid hcall
              clear hcall hea he
              have hwu := wrap_u64z o.n
              go_wp2_with fail
              rw [← hwa]
              clear hwa
              go_region_held3 (fun w' => w'.cell? ⟨wr.heap.size, 1, none⟩ = some (.int .i64 o.n)) (first | exact hA1 | exact (hk3.cell hsz hne).trans hA1)
                (first | (go_at_call 22; refine HCALL.out.mono ?_; rintro e w3 ⟨rfl, v3, he3, hk3, hv3⟩))
              have hB3 : Below w.heap.size w w3 := hBd.trans (hk3.below hBa.size (fun i hi => by subst hi; exact hbase))
              skip
              go_wp2_with fail
              go_roundw
              case rel => exact ⟨j + 1, v3, by omega, by go_num, he3, hB3⟩
              case measure => simp [intOf]; omega
            · have HTK := hid (show wroteAll (os.drop j) = Ink.num (half o.n) ++ wroteAll (os.drop (j + 1)) by rw [wroteAll_drop os j o ho, wrote1 o hq])
              have hqi : (o.d : Int) % 4 = 1 := by omega
              clear hq ho
              obtain ⟨wa, hwa⟩ : ∃ wa, wa = (wr.alloc (.cells #[.int .u8 (o.d : Int), .int .i64 o.n, .slice A L C] 38)) := ⟨_, rfl⟩
              have hea : EyeSt wa w.heap.size be v (some (wroteAll (os.drop j))) := by rw [hwa]; exact EyeAt.below he ((Below.refl _ _).alloc (Nat.le_refl _) _)
              have hBa : Below w.heap.size w wa := by rw [hwa]; exact hB.alloc hB.size _
              have hBd : Below w.heap.size w wa.drew := ⟨hBa.os, hBa.tape, hBa.output, hBa.size, hBa.block⟩
              have hsz : wr.heap.size < wa.heap.size := by rw [hwa]; simp
              have hne : wr.heap.size ≠ be := by have := EyeAt.lt he; omega
              have hA1 : wa.cell? ⟨wr.heap.size, 1, none⟩ = some (.int .i64 o.n) := by rw [hwa, cell_of_row _ _ _ _ _ _ (heap_alloc_new wr _)]; rfl
              have hA2 : wa.cell? ⟨wr.heap.size, 2, none⟩ = some (.slice A L C) := by rw [hwa, cell_of_row _ _ _ _ _ _ (heap_alloc_new wr _)]; rfl
              have hbase : w.heap.size ≤ be := hea.2.2.2
              rw [HTK.out] at hea
              have hcall := eyeint_st _ _ _ _ wa.drew (EyeSt.drew hea)
              rw [stBelow_num _ _ _ (half_lt _) (by omega)] at hcall
              have HCALL := hid hcall
              clear hcall hea he
              have hwh := half_eq o.n
              have hwh2 : Go.RowKit.wrap64 (o.n % 4294967296 / 2) = (half o.n : Int) := wrap_half o.n
              have hwh3 : Go.RowKit.wrap64 (half o.n : Int) = (half o.n : Int) := wrap_half2 o.n
              have hbeq : ((half o.n : Int) == IntKind.i64.wrap (IntKind.u32.wrap o.n / 2)) = true := by rw [half_wrap]; simp
              go_wp2_with fail
              rw [← hwa]
              clear hwa
              go_region_held3 (fun w' => w'.cell? ⟨wr.heap.size, 1, none⟩ = some (.int .i64 o.n)) (first | exact hA1 | exact (hk3.cell hsz hne).trans hA1)
                (first | (go_at_call 29; refine HCALL.out.mono ?_; rintro e w3 ⟨rfl, v3, he3, hk3, hv3⟩))
              have hB3 : Below w.heap.size w w3 := hBd.trans (hk3.below hBa.size (fun i hi => by subst hi; exact hbase))
              try rw [hbeq]
              go_wp2_with fail
              go_roundw
              case rel => exact ⟨j + 1, v3, by omega, by go_num, he3, hB3⟩
              case measure => simp [intOf]; omega
            · have HTK := hid (show wroteAll (os.drop j) = Ink.num (if decide (0 < o.n) = true then 1 else 0) ++ wroteAll (os.drop (j + 1)) by rw [wroteAll_drop os j o ho, wrote2 o hq])
              have hqi : (o.d : Int) % 4 = 2 := by omega
              clear hq ho
              obtain ⟨wa, hwa⟩ : ∃ wa, wa = (wr.alloc (.cells #[.int .u8 (o.d : Int), .int .i64 o.n, .slice A L C] 38)) := ⟨_, rfl⟩
              have hea : EyeSt wa w.heap.size be v (some (wroteAll (os.drop j))) := by rw [hwa]; exact EyeAt.below he ((Below.refl _ _).alloc (Nat.le_refl _) _)
              have hBa : Below w.heap.size w wa := by rw [hwa]; exact hB.alloc hB.size _
              have hBd : Below w.heap.size w wa.drew := ⟨hBa.os, hBa.tape, hBa.output, hBa.size, hBa.block⟩
              have hsz : wr.heap.size < wa.heap.size := by rw [hwa]; simp
              have hne : wr.heap.size ≠ be := by have := EyeAt.lt he; omega
              have hA1 : wa.cell? ⟨wr.heap.size, 1, none⟩ = some (.int .i64 o.n) := by rw [hwa, cell_of_row _ _ _ _ _ _ (heap_alloc_new wr _)]; rfl
              have hA2 : wa.cell? ⟨wr.heap.size, 2, none⟩ = some (.slice A L C) := by rw [hwa, cell_of_row _ _ _ _ _ _ (heap_alloc_new wr _)]; rfl
              have hbase : w.heap.size ≤ be := hea.2.2.2
              rw [HTK.out] at hea
              by_cases hpos : 0 < o.n
              · rw [show decide (0 < o.n) = true from decide_eq_true hpos, if_pos rfl] at hea
                have hcall := eyebool_st _ _ _ _ wa.drew (EyeSt.drew hea)
                rw [stBelow_num _ _ _ (by omega) (by omega)] at hcall
                have HCALL := hid hcall
                clear hcall hea he
                go_wp2_with fail
                rw [← hwa]
                clear hwa
                go_region_held3 (fun w' => w'.cell? ⟨wr.heap.size, 1, none⟩ = some (.int .i64 o.n)) (first | exact hA1 | exact (hk3.cell hsz hne).trans hA1)
                  (first | (go_at_call 31; refine HCALL.out.mono ?_; rintro e w3 ⟨rfl, v3, he3, hk3, hv3⟩))
                have hB3 : Below w.heap.size w w3 := hBd.trans (hk3.below hBa.size (fun i hi => by subst hi; exact hbase))
                skip
                go_wp2_with fail
                go_roundw
                case rel => exact ⟨j + 1, v3, by omega, by go_num, he3, hB3⟩
                case measure => simp [intOf]; omega
              · rw [show decide (0 < o.n) = false from decide_eq_false hpos, if_neg (by decide)] at hea
                have hcall := eyebool_st _ _ _ _ wa.drew (EyeSt.drew hea)
                rw [stBelow_num _ _ _ (by omega) (by omega)] at hcall
                have HCALL := hid hcall
                clear hcall hea he
                go_wp2_with fail
                rw [← hwa]
                clear hwa
                go_region_held3 (fun w' => w'.cell? ⟨wr.heap.size, 1, none⟩ = some (.int .i64 o.n)) (first | exact hA1 | exact (hk3.cell hsz hne).trans hA1)
                  (first | (go_at_call 31; refine HCALL.out.mono ?_; rintro e w3 ⟨rfl, v3, he3, hk3, hv3⟩))
                have hB3 : Below w.heap.size w w3 := hBd.trans (hk3.below hBa.size (fun i hi => by subst hi; exact hbase))
                skip
                go_wp2_with fail
                go_roundw
                case rel => exact ⟨j + 1, v3, by omega, by go_num, he3, hB3⟩
                case measure => simp [intOf]; omega
            · have HTK := hid (show wroteAll (os.drop j) = Ink.text o.t ++ wroteAll (os.drop (j + 1)) by rw [wroteAll_drop os j o ho, wrote3 o hq])
              have hqi : (o.d : Int) % 4 = 3 := by omega
              clear hq ho
              obtain ⟨wa, hwa⟩ : ∃ wa, wa = (wr.alloc (.cells #[.int .u8 (o.d : Int), .int .i64 o.n, .slice A L C] 38)) := ⟨_, rfl⟩
              have hea : EyeSt wa w.heap.size be v (some (wroteAll (os.drop j))) := by rw [hwa]; exact EyeAt.below he ((Below.refl _ _).alloc (Nat.le_refl _) _)
              have hBa : Below w.heap.size w wa := by rw [hwa]; exact hB.alloc hB.size _
              have hBd : Below w.heap.size w wa.drew := ⟨hBa.os, hBa.tape, hBa.output, hBa.size, hBa.block⟩
              have hsz : wr.heap.size < wa.heap.size := by rw [hwa]; simp
              have hne : wr.heap.size ≠ be := by have := EyeAt.lt he; omega
              have hA1 : wa.cell? ⟨wr.heap.size, 1, none⟩ = some (.int .i64 o.n) := by rw [hwa, cell_of_row _ _ _ _ _ _ (heap_alloc_new wr _)]; rfl
              have hA2 : wa.cell? ⟨wr.heap.size, 2, none⟩ = some (.slice A L C) := by rw [hwa, cell_of_row _ _ _ _ _ _ (heap_alloc_new wr _)]; rfl
              have hbase : w.heap.size ≤ be := hea.2.2.2
              rw [HTK.out] at hea
              by_cases hL : L ≤ 50
              · rw [show min L 50 = L by omega] at hrd hlen
                have HLEN := hid hlen
                have hrd1 : Rd wa.drew (.slice A (L) C) o.t := hrd.below hBd
                have hcall := eyetext_st _ _ _ _ wa.drew (EyeSt.drew hea) (by rw [← HTK.out]; exact hlim.out)
                rw [stText_text _ _ (by omega)] at hcall
                have HCALL := hid hcall
                have HRD := hid hrd
                clear hcall hea he hlen hrd hrd1
                have f1 : (0 : Int) ≤ (L : Int) := by omega
                have f0 : (L : Int) ≤ 50 := by omega
                have f2 : (L : Int) ≤ (C : Int) := by omega
                have f3 : min (L : Int) 50 = (L : Int) := by omega
                have f4 : L ≤ C := by omega
                have f5 : ((50 : Int) < (L : Int)) = False := eq_false (by omega)
                have f6 : (if (50 : Int) < (L : Int) then (50 : Int) else (L : Int)) = (L : Int) := if_neg (by omega)
                go_wp2_with fail
                rw [← hwa]
                clear hwa
                go_region_held3 (fun w' => w'.cell? ⟨wr.heap.size, 2, none⟩ = some (.slice A L C)) (first | exact hA2 | exact (hk3.cell hsz hne).trans hA2)
                  (first | (go_at_call 33; refine HCALL.out.mono ?_; rintro e w3 ⟨u3, rfl, hu3, v3, he3, hk3, hv3⟩) | (go_at_call 18; refine (same_eq _ _ _ _ hu3.rd (HRD.out.below (hBd.trans (hk3.below hBa.size (fun i hi => by subst hi; exact hbase))))).mono ?_; rintro e w4 ⟨rfl, rfl⟩))
                all_goals
                  have hB3 : Below w.heap.size w w3 := hBd.trans (hk3.below hBa.size (fun i hi => by subst hi; exact hbase))
                  go_wp2_with fail
                  go_roundw
                  case rel => exact ⟨j + 1, v3, by omega, by go_num, he3, hB3⟩
                  case measure => simp [intOf]; omega
              · rw [show min L 50 = 50 by omega] at hrd hlen
                have HLEN := hid hlen
                have hrd1 : Rd wa.drew (.slice A (50) C) o.t := hrd.below hBd
                have hcall := eyetext_st _ _ _ _ wa.drew (EyeSt.drew hea) (by rw [← HTK.out]; exact hlim.out)
                rw [stText_text _ _ (by omega)] at hcall
                have HCALL := hid hcall
                have HRD := hid hrd
                clear hcall hea he hlen hrd hrd1
                have f1 : (0 : Int) ≤ (L : Int) := by omega
                have f0 : ¬ (L : Int) ≤ 50 := by omega
                have f2 : (L : Int) ≤ (C : Int) := by omega
                have f3 : min (L : Int) 50 = 50 := by omega
                have f4 : (50 : Int) ≤ (C : Int) := by omega
                go_wp2_with fail
                rw [← hwa]
                clear hwa
                go_region_held3 (fun w' => w'.cell? ⟨wr.heap.size, 2, none⟩ = some (.slice A L C)) (first | exact hA2 | exact (hk3.cell hsz hne).trans hA2)
                  (first | (go_at_call 33; refine HCALL.out.mono ?_; rintro e w3 ⟨u3, rfl, hu3, v3, he3, hk3, hv3⟩) | (go_at_call 18; refine (same_eq _ _ _ _ hu3.rd (HRD.out.below (hBd.trans (hk3.below hBa.size (fun i hi => by subst hi; exact hbase))))).mono ?_; rintro e w4 ⟨rfl, rfl⟩))
                all_goals
                  have hB3 : Below w.heap.size w w3 := hBd.trans (hk3.below hBa.size (fun i hi => by subst hi; exact hbase))
                  go_wp2_with fail
                  go_roundw
                  case rel => exact ⟨j + 1, v3, by omega, by go_num, he3, hB3⟩
                  case measure => simp [intOf]; omega
          · obtain rfl : len0 = j := by omega
            have hnil : wroteAll (os.drop (len0)) = [] := by rw [List.drop_eq_nil_of_le (by rw [HOL.out]; exact Nat.le_refl _)]; rfl
            rw [hnil] at he
            go_wp2_with fail
            refine (eyeend_good _ _ _ _ he).mono ?_
            rintro e w9 ⟨rfl, rfl⟩
            go_wp2
            go_ret
            exact ⟨rfl, hB⟩
  · obtain ⟨os, hos1, hos⟩ := hlist (60) (by omega)
    have HOL := hid hos1
    have HOS := hid hos
    have hl60 : 60 ≤ 60 := by omega
    have HLEN0 := hid (wroteAll_length os (fun r o h => by
      have hr : r < 60 := by rw [← hos1]; exact (List.getElem?_eq_some_iff.1 h).1
      obtain ⟨o', A, L, C, ho, _, _, _, _, _, _, _, _, hlen, _⟩ := hos r hr
      rw [ho] at h
      cases h
      omega))
    clear hos1 hos
    go_enter Try.func7, Try.ntmps7
    go_wp2_with fail
    refine (awake1_any w).mono ?_
    rintro e w1 ⟨rfl, hb1⟩
    go_wp2_with fail
    refine (new_any w1).mono ?_
    rintro e w2 ⟨rfl, hp2, hb2, hs2⟩
    have hB2 := hb1.trans (hb2.mono hb1.size)
    have hp0 : PenAt w2 w.heap.size w1.heap.size (.slice none 0 0) [] false := ⟨hp2.1, Own.nil _ _, hp2.2.2.1, hb1.size⟩
    clear hs2 hp2 hb2
    go_wp2_with fail
    go_loopw [20] (fun i wr => ∃ (j : Nat) (v : Value), j ≤ 60 ∧ i = .int .i64 j ∧ PenAt wr w.heap.size w1.heap.size v (wroteAll (os.take j)) false ∧ Below w.heap.size w wr) (fun i _ => 60 - (intOf i).toNat)
    case atStart => exact ⟨0, _, by omega, rfl, hp0, hB2⟩
    case round =>
      obtain ⟨j, v, hj, rfl, hp, hB⟩ := hrel
      have hln : (wroteAll (os.take j)).length ≤ 6600 := by
        have := HLEN0.out j (by rw [HOL.out]; exact hj)
        omega
      by_cases hlt : j < 60
      · obtain ⟨o, A, L, C, ho, hc0, hd, hc1, hn0, hn1, hc2, hLC, hC, hlen, hrd⟩ := HOS.out j hlt
        have hcell0 := (hB.cell (p := ⟨b, off + j * 3, none⟩) hbw).trans hc0
        have hcell1 := (hB.cell (p := ⟨b, off + (j * 3 + 1), none⟩) hbw).trans hc1
        have hcell2 := (hB.cell (p := ⟨b, off + (j * 3 + 2), none⟩) hbw).trans hc2
        rw [← Nat.add_assoc] at hcell1 hcell2
        clear hc0 hc1 hc2
        have hq : o.d % 4 = 0 ∨ o.d % 4 = 1 ∨ o.d % 4 = 2 ∨ o.d % 4 = 3 := by omega
        rcases hq with hq | hq | hq | hq
        · have HTK := hid (show wroteAll (os.take (j + 1)) = wroteAll (os.take j) ++ Ink.num (u64 o.n) by rw [wroteAll_take os j o ho, wrote0 o hq])
          have hqi : (o.d : Int) % 4 = 0 := by omega
          clear hq ho
          have hpa : PenAt (wr.alloc (.cells #[.int .u8 (o.d : Int), .int .i64 o.n, .slice A L C] 38)) w.heap.size w1.heap.size v (wroteAll (os.take j)) false := hp.below ((Below.refl _ _).alloc (Nat.le_refl _) _)
          have HLN := hid hln
          go_wp2_with fail
          refine (pennum_at _ w.heap.size v (wroteAll (os.take j)) (u64 o.n) _ (wrap_u64z _) (u64_lt _) _ hpa (by have := HLN.out; omega) (by have := hB.size; simp; omega)).mono ?_
          rintro e w2 ⟨rfl, v2, hp2, hk2, hf2⟩
          have hB2 : Below w.heap.size w w2 := (hB.alloc hB.size _).trans (PenAt.low hpa hk2 (fun _ h => h) (by have := hB.size; simp; omega))
          rw [← HTK.out] at hp2
          go_wp2_with fail
          go_roundw
          case rel => exact ⟨j + 1, v2, by omega, by go_num, hp2, hB2⟩
          case measure => simp [intOf]; omega
        · have HTK := hid (show wroteAll (os.take (j + 1)) = wroteAll (os.take j) ++ Ink.num (half o.n) by rw [wroteAll_take os j o ho, wrote1 o hq])
          have hqi : (o.d : Int) % 4 = 1 := by omega
          clear hq ho
          have hpa : PenAt (wr.alloc (.cells #[.int .u8 (o.d : Int), .int .i64 o.n, .slice A L C] 38)) w.heap.size w1.heap.size v (wroteAll (os.take j)) false := hp.below ((Below.refl _ _).alloc (Nat.le_refl _) _)
          have HLN := hid hln
          go_wp2_with fail
          refine (penint_at _ w.heap.size v (wroteAll (os.take j)) (half o.n) _ (half_eq _) (by have := half_lt o.n; omega) _ hpa (by have := HLN.out; omega) (by have := hB.size; simp; omega)).mono ?_
          rintro e w2 ⟨rfl, v2, hp2, hk2, hf2⟩
          have hB2 : Below w.heap.size w w2 := (hB.alloc hB.size _).trans (PenAt.low hpa hk2 (fun _ h => h) (by have := hB.size; simp; omega))
          rw [← HTK.out] at hp2
          go_wp2_with fail
          go_roundw
          case rel => exact ⟨j + 1, v2, by omega, by go_num, hp2, hB2⟩
          case measure => simp [intOf]; omega
        · have HTK := hid (show wroteAll (os.take (j + 1)) = wroteAll (os.take j) ++ Ink.num (if decide (0 < o.n) = true then 1 else 0) by rw [wroteAll_take os j o ho, wrote2 o hq])
          have hqi : (o.d : Int) % 4 = 2 := by omega
          clear hq ho
          have hpa : PenAt (wr.alloc (.cells #[.int .u8 (o.d : Int), .int .i64 o.n, .slice A L C] 38)) w.heap.size w1.heap.size v (wroteAll (os.take j)) false := hp.below ((Below.refl _ _).alloc (Nat.le_refl _) _)
          have HLN := hid hln
          go_wp2_with fail
          refine (penbool_good _ w.heap.size v (wroteAll (os.take j)) (decide (0 < o.n)) _ hpa (by have := HLN.out; omega) (by have := hB.size; simp; omega)).mono ?_
          rintro e w2 ⟨rfl, v2, hp2, hk2, hf2⟩
          have hB2 : Below w.heap.size w w2 := (hB.alloc hB.size _).trans (PenAt.low hpa hk2 (fun _ h => h) (by have := hB.size; simp; omega))
          rw [← HTK.out] at hp2
          go_wp2_with fail
          go_roundw
          case rel => exact ⟨j + 1, v2, by omega, by go_num, hp2, hB2⟩
          case measure => simp [intOf]; omega
        · have HTK := hid (show wroteAll (os.take (j + 1)) = wroteAll (os.take j) ++ Ink.text o.t by rw [wroteAll_take os j o ho, wrote3 o hq])
          have hqi : (o.d : Int) % 4 = 3 := by omega
          clear hq ho
          have hpa : PenAt (wr.alloc (.cells #[.int .u8 (o.d : Int), .int .i64 o.n, .slice A L C] 38)) w.heap.size w1.heap.size v (wroteAll (os.take j)) false := hp.below ((Below.refl _ _).alloc (Nat.le_refl _) _)
          have HLN := hid hln
          by_cases hL : L ≤ 50
          · rw [show min L 50 = L by omega] at hrd hlen
            have HLEN := hid hlen
            have hrd1 : Rd (wr.alloc (.cells #[.int .u8 (o.d : Int), .int .i64 o.n, .slice A L C] 38)) (.slice A (L) C) o.t := (hrd.below hB).alloc _
            have hsep : o.t = [] ∨ ∀ k, (Value.slice A (L) C).ownBlock = some k → ¬ penS w1.heap.size v k := by
              rcases Nat.eq_zero_or_pos (L) with h | h
              · exact .inl (List.eq_nil_of_length_eq_zero (by rw [hlen]; exact h))
              · right
                obtain ⟨b', off', ea, hb', _⟩ := hrd.cellsAt h
                intro k hk hs
                rw [ea] at hk
                simp [Value.ownBlock] at hk
                rcases hs with h' | h'
                · have := hpa.2.2.2; omega
                · have := (hpa.2.1.lt k h').1; omega
            clear hlen hrd
            go_wp2_with fail
            refine (pentext_at _ w.heap.size v (wroteAll (os.take j)) _ o.t _ hpa hrd1 hsep (by have := HLN.out; omega) (by rw [HLEN.out]; omega) (by have := hB.size; simp; omega)).mono ?_
            rintro e w2 ⟨rfl, v2, hp2, hk2, hf2⟩
            have hB2 : Below w.heap.size w w2 := (hB.alloc hB.size _).trans (PenAt.low hpa hk2 (fun _ h => h) (by have := hB.size; simp; omega))
            rw [← HTK.out] at hp2
            go_wp2_with fail
            go_roundw
            case rel => exact ⟨j + 1, v2, by omega, by go_num, hp2, hB2⟩
            case measure => simp [intOf]; omega
          · rw [show min L 50 = 50 by omega] at hrd hlen
            have HLEN := hid hlen
            have hrd1 : Rd (wr.alloc (.cells #[.int .u8 (o.d : Int), .int .i64 o.n, .slice A L C] 38)) (.slice A (50) C) o.t := (hrd.below hB).alloc _
            have hsep : o.t = [] ∨ ∀ k, (Value.slice A (50) C).ownBlock = some k → ¬ penS w1.heap.size v k := by
              rcases Nat.eq_zero_or_pos (50) with h | h
              · exact .inl (List.eq_nil_of_length_eq_zero (by rw [hlen]; exact h))
              · right
                obtain ⟨b', off', ea, hb', _⟩ := hrd.cellsAt h
                intro k hk hs
                rw [ea] at hk
                simp [Value.ownBlock] at hk
                rcases hs with h' | h'
                · have := hpa.2.2.2; omega
                · have := (hpa.2.1.lt k h').1; omega
            clear hlen hrd
            go_wp2_with fail
            refine (pentext_at _ w.heap.size v (wroteAll (os.take j)) _ o.t _ hpa hrd1 hsep (by have := HLN.out; omega) (by rw [HLEN.out]; omega) (by have := hB.size; simp; omega)).mono ?_
            rintro e w2 ⟨rfl, v2, hp2, hk2, hf2⟩
            have hB2 : Below w.heap.size w w2 := (hB.alloc hB.size _).trans (PenAt.low hpa hk2 (fun _ h => h) (by have := hB.size; simp; omega))
            rw [← HTK.out] at hp2
            go_wp2_with fail
            go_roundw
            case rel => exact ⟨j + 1, v2, by omega, by go_num, hp2, hB2⟩
            case measure => simp [intOf]; omega
      · obtain rfl : 60 = j := by omega
        rw [show ((60 : Nat) : Int) = 60 from rfl]
        have hfull : wroteAll (os.take (60)) = wroteAll (os.drop 0) := by rw [List.take_of_length_le (by rw [HOL.out]; exact Nat.le_refl _), List.drop_zero]
        rw [hfull] at hp hln
        clear hfull
        go_wp2_with fail
        refine (penbytes_any _ _ v _ false wr hp (by omega)).mono ?_
        rintro e w3 ⟨x3, rfl, ho3, hb3⟩
        have hB3 := hB.trans (hb3.mono hB.size)
        go_wp2_with fail
        refine (read_any _ _ w3 ho3.rd (by omega)).mono ?_
        rintro e w4 ⟨be, ve0, rfl, he4, hb4⟩
        have hB4 := hB3.trans (hb4.mono hB3.size)
        have he0 : EyeSt w4 w.heap.size be ve0 (some (wroteAll (os.drop 0))) := he4.base hB3.size
        clear hp hln hB hb3 hB3 ho3 he4 hb4
        go_wp2_with fail
        go_loopw [65] (fun i wr => ∃ (j : Nat) (v : Value), j ≤ 60 ∧ i = .int .i64 j ∧ EyeSt wr w.heap.size be v (some (wroteAll (os.drop j))) ∧ Below w.heap.size w wr) (fun i _ => 60 - (intOf i).toNat)
        case atStart => exact ⟨0, _, by omega, rfl, he0, hB4⟩
        case round =>
          clear he0 hB4
          obtain ⟨j, v, hj, rfl, he, hB⟩ := hrel
          by_cases hlt : j < 60
          · obtain ⟨o, A, L, C, ho, hc0, hd, hc1, hn0, hn1, hc2, hLC, hC, hlen, hrd⟩ := HOS.out j hlt
            have hcell0 := (hB.cell (p := ⟨b, off + j * 3, none⟩) hbw).trans hc0
            have hcell1 := (hB.cell (p := ⟨b, off + (j * 3 + 1), none⟩) hbw).trans hc1
            have hcell2 := (hB.cell (p := ⟨b, off + (j * 3 + 2), none⟩) hbw).trans hc2
            rw [← Nat.add_assoc] at hcell1 hcell2
            clear hc0 hc1 hc2
            have hlim := hid (show ((some (wroteAll (os.drop j))).getD []).length ≤ 1000000 by
              have h1 := wroteAll_drop_le os j
              have h2 := HLEN0.out (60) (by rw [HOL.out]; exact Nat.le_refl _)
              rw [List.take_of_length_le (by rw [HOL.out]; exact Nat.le_refl _)] at h2
              simp only [Option.getD_some]
              omega)
            have hq : o.d % 4 = 0 ∨ o.d % 4 = 1 ∨ o.d % 4 = 2 ∨ o.d % 4 = 3 := by omega
            rcases hq with hq | hq | hq | hq
            · have HTK := hid (show wroteAll (os.drop j) = Ink.num (u64 o.n) ++ wroteAll (os.drop (j + 1)) by rw [wroteAll_drop os j o ho, wrote0 o hq])
              have hqi : (o.d : Int) % 4 = 0 := by omega
              clear hq ho
              obtain ⟨wa, hwa⟩ : ∃ wa, wa = (wr.alloc (.cells #[.int .u8 (o.d : Int), .int .i64 o.n, .slice A L C] 38)) := ⟨_, rfl⟩
              have hea : EyeSt wa w.heap.size be v (some (wroteAll (os.drop j))) := by rw [hwa]; exact EyeAt.below he ((Below.refl _ _).alloc (Nat.le_refl _) _)
              have hBa : Below w.heap.size w wa := by rw [hwa]; exact hB.alloc hB.size _
              have hBd : Below w.heap.size w wa.drew := ⟨hBa.os, hBa.tape, hBa.output, hBa.size, hBa.block⟩
              have hsz : wr.heap.size < wa.heap.size := by rw [hwa]; simp
              have hne : wr.heap.size ≠ be := by have := EyeAt.lt he; omega
              have hA1 : wa.cell? ⟨wr.heap.size, 1, none⟩ = some (.int .i64 o.n) := by rw [hwa, cell_of_row _ _ _ _ _ _ (heap_alloc_new wr _)]; rfl
              have hA2 : wa.cell? ⟨wr.heap.size, 2, none⟩ = some (.slice A L C) := by rw [hwa, cell_of_row _ _ _ _ _ _ (heap_alloc_new wr _)]; rfl
              have hbase : w.heap.size ≤ be := hea.2.2.2
              rw [HTK.out] at hea
              have hcall := eyenum_st _ _ _ _ wa.drew (EyeSt.drew hea)
              rw [stNum_num _ _ (u64_lt _)] at hcall
              have HCALL := hid hcall
              clear hcall hea he
              have hwu := wrap_u64z o.n
              go_wp2_with fail
              rw [← hwa]
              clear hwa
              go_region_held3 (fun w' => w'.cell? ⟨wr.heap.size, 1, none⟩ = some (.int .i64 o.n)) (first | exact hA1 | exact (hk3.cell hsz hne).trans hA1)
                (first | (go_at_call 22; refine HCALL.out.mono ?_; rintro e w3 ⟨rfl, v3, he3, hk3, hv3⟩))
              have hB3 : Below w.heap.size w w3 := hBd.trans (hk3.below hBa.size (fun i hi => by subst hi; exact hbase))
              skip
              go_wp2_with fail
              go_roundw
              case rel => exact ⟨j + 1, v3, by omega, by go_num, he3, hB3⟩
              case measure => simp [intOf]; omega
            · have HTK := hid (show wroteAll (os.drop j) = Ink.num (half o.n) ++ wroteAll (os.drop (j + 1)) by rw [wroteAll_drop os j o ho, wrote1 o hq])
              have hqi : (o.d : Int) % 4 = 1 := by omega
              clear hq ho
              obtain ⟨wa, hwa⟩ : ∃ wa, wa = (wr.alloc (.cells #[.int .u8 (o.d : Int), .int .i64 o.n, .slice A L C] 38)) := ⟨_, rfl⟩
              have hea : EyeSt wa w.heap.size be v (some (wroteAll (os.drop j))) := by rw [hwa]; exact EyeAt.below he ((Below.refl _ _).alloc (Nat.le_refl _) _)
              have hBa : Below w.heap.size w wa := by rw [hwa]; exact hB.alloc hB.size _
              have hBd : Below w.heap.size w wa.drew := ⟨hBa.os, hBa.tape, hBa.output, hBa.size, hBa.block⟩
              have hsz : wr.heap.size < wa.heap.size := by rw [hwa]; simp
              have hne : wr.heap.size ≠ be := by have := EyeAt.lt he; omega
              have hA1 : wa.cell? ⟨wr.heap.size, 1, none⟩ = some (.int .i64 o.n) := by rw [hwa, cell_of_row _ _ _ _ _ _ (heap_alloc_new wr _)]; rfl
              have hA2 : wa.cell? ⟨wr.heap.size, 2, none⟩ = some (.slice A L C) := by rw [hwa, cell_of_row _ _ _ _ _ _ (heap_alloc_new wr _)]; rfl
              have hbase : w.heap.size ≤ be := hea.2.2.2
              rw [HTK.out] at hea
              have hcall := eyeint_st _ _ _ _ wa.drew (EyeSt.drew hea)
              rw [stBelow_num _ _ _ (half_lt _) (by omega)] at hcall
              have HCALL := hid hcall
              clear hcall hea he
              have hwh := half_eq o.n
              have hwh2 : Go.RowKit.wrap64 (o.n % 4294967296 / 2) = (half o.n : Int) := wrap_half o.n
              have hwh3 : Go.RowKit.wrap64 (half o.n : Int) = (half o.n : Int) := wrap_half2 o.n
              have hbeq : ((half o.n : Int) == IntKind.i64.wrap (IntKind.u32.wrap o.n / 2)) = true := by rw [half_wrap]; simp
              go_wp2_with fail
              rw [← hwa]
              clear hwa
              go_region_held3 (fun w' => w'.cell? ⟨wr.heap.size, 1, none⟩ = some (.int .i64 o.n)) (first | exact hA1 | exact (hk3.cell hsz hne).trans hA1)
                (first | (go_at_call 29; refine HCALL.out.mono ?_; rintro e w3 ⟨rfl, v3, he3, hk3, hv3⟩))
              have hB3 : Below w.heap.size w w3 := hBd.trans (hk3.below hBa.size (fun i hi => by subst hi; exact hbase))
              try rw [hbeq]
              go_wp2_with fail
              go_roundw
              case rel => exact ⟨j + 1, v3, by omega, by go_num, he3, hB3⟩
              case measure => simp [intOf]; omega
            · have HTK := hid (show wroteAll (os.drop j) = Ink.num (if decide (0 < o.n) = true then 1 else 0) ++ wroteAll (os.drop (j + 1)) by rw [wroteAll_drop os j o ho, wrote2 o hq])
              have hqi : (o.d : Int) % 4 = 2 := by omega
              clear hq ho
              obtain ⟨wa, hwa⟩ : ∃ wa, wa = (wr.alloc (.cells #[.int .u8 (o.d : Int), .int .i64 o.n, .slice A L C] 38)) := ⟨_, rfl⟩
              have hea : EyeSt wa w.heap.size be v (some (wroteAll (os.drop j))) := by rw [hwa]; exact EyeAt.below he ((Below.refl _ _).alloc (Nat.le_refl _) _)
              have hBa : Below w.heap.size w wa := by rw [hwa]; exact hB.alloc hB.size _
              have hBd : Below w.heap.size w wa.drew := ⟨hBa.os, hBa.tape, hBa.output, hBa.size, hBa.block⟩
              have hsz : wr.heap.size < wa.heap.size := by rw [hwa]; simp
              have hne : wr.heap.size ≠ be := by have := EyeAt.lt he; omega
              have hA1 : wa.cell? ⟨wr.heap.size, 1, none⟩ = some (.int .i64 o.n) := by rw [hwa, cell_of_row _ _ _ _ _ _ (heap_alloc_new wr _)]; rfl
              have hA2 : wa.cell? ⟨wr.heap.size, 2, none⟩ = some (.slice A L C) := by rw [hwa, cell_of_row _ _ _ _ _ _ (heap_alloc_new wr _)]; rfl
              have hbase : w.heap.size ≤ be := hea.2.2.2
              rw [HTK.out] at hea
              by_cases hpos : 0 < o.n
              · rw [show decide (0 < o.n) = true from decide_eq_true hpos, if_pos rfl] at hea
                have hcall := eyebool_st _ _ _ _ wa.drew (EyeSt.drew hea)
                rw [stBelow_num _ _ _ (by omega) (by omega)] at hcall
                have HCALL := hid hcall
                clear hcall hea he
                go_wp2_with fail
                rw [← hwa]
                clear hwa
                go_region_held3 (fun w' => w'.cell? ⟨wr.heap.size, 1, none⟩ = some (.int .i64 o.n)) (first | exact hA1 | exact (hk3.cell hsz hne).trans hA1)
                  (first | (go_at_call 31; refine HCALL.out.mono ?_; rintro e w3 ⟨rfl, v3, he3, hk3, hv3⟩))
                have hB3 : Below w.heap.size w w3 := hBd.trans (hk3.below hBa.size (fun i hi => by subst hi; exact hbase))
                skip
                go_wp2_with fail
                go_roundw
                case rel => exact ⟨j + 1, v3, by omega, by go_num, he3, hB3⟩
                case measure => simp [intOf]; omega
              · rw [show decide (0 < o.n) = false from decide_eq_false hpos, if_neg (by decide)] at hea
                have hcall := eyebool_st _ _ _ _ wa.drew (EyeSt.drew hea)
                rw [stBelow_num _ _ _ (by omega) (by omega)] at hcall
                have HCALL := hid hcall
                clear hcall hea he
                go_wp2_with fail
                rw [← hwa]
                clear hwa
                go_region_held3 (fun w' => w'.cell? ⟨wr.heap.size, 1, none⟩ = some (.int .i64 o.n)) (first | exact hA1 | exact (hk3.cell hsz hne).trans hA1)
                  (first | (go_at_call 31; refine HCALL.out.mono ?_; rintro e w3 ⟨rfl, v3, he3, hk3, hv3⟩))
                have hB3 : Below w.heap.size w w3 := hBd.trans (hk3.below hBa.size (fun i hi => by subst hi; exact hbase))
                skip
                go_wp2_with fail
                go_roundw
                case rel => exact ⟨j + 1, v3, by omega, by go_num, he3, hB3⟩
                case measure => simp [intOf]; omega
            · have HTK := hid (show wroteAll (os.drop j) = Ink.text o.t ++ wroteAll (os.drop (j + 1)) by rw [wroteAll_drop os j o ho, wrote3 o hq])
              have hqi : (o.d : Int) % 4 = 3 := by omega
              clear hq ho
              obtain ⟨wa, hwa⟩ : ∃ wa, wa = (wr.alloc (.cells #[.int .u8 (o.d : Int), .int .i64 o.n, .slice A L C] 38)) := ⟨_, rfl⟩
              have hea : EyeSt wa w.heap.size be v (some (wroteAll (os.drop j))) := by rw [hwa]; exact EyeAt.below he ((Below.refl _ _).alloc (Nat.le_refl _) _)
              have hBa : Below w.heap.size w wa := by rw [hwa]; exact hB.alloc hB.size _
              have hBd : Below w.heap.size w wa.drew := ⟨hBa.os, hBa.tape, hBa.output, hBa.size, hBa.block⟩
              have hsz : wr.heap.size < wa.heap.size := by rw [hwa]; simp
              have hne : wr.heap.size ≠ be := by have := EyeAt.lt he; omega
              have hA1 : wa.cell? ⟨wr.heap.size, 1, none⟩ = some (.int .i64 o.n) := by rw [hwa, cell_of_row _ _ _ _ _ _ (heap_alloc_new wr _)]; rfl
              have hA2 : wa.cell? ⟨wr.heap.size, 2, none⟩ = some (.slice A L C) := by rw [hwa, cell_of_row _ _ _ _ _ _ (heap_alloc_new wr _)]; rfl
              have hbase : w.heap.size ≤ be := hea.2.2.2
              rw [HTK.out] at hea
              by_cases hL : L ≤ 50
              · rw [show min L 50 = L by omega] at hrd hlen
                have HLEN := hid hlen
                have hrd1 : Rd wa.drew (.slice A (L) C) o.t := hrd.below hBd
                have hcall := eyetext_st _ _ _ _ wa.drew (EyeSt.drew hea) (by rw [← HTK.out]; exact hlim.out)
                rw [stText_text _ _ (by omega)] at hcall
                have HCALL := hid hcall
                have HRD := hid hrd
                clear hcall hea he hlen hrd hrd1
                have f1 : (0 : Int) ≤ (L : Int) := by omega
                have f0 : (L : Int) ≤ 50 := by omega
                have f2 : (L : Int) ≤ (C : Int) := by omega
                have f3 : min (L : Int) 50 = (L : Int) := by omega
                have f4 : L ≤ C := by omega
                have f5 : ((50 : Int) < (L : Int)) = False := eq_false (by omega)
                have f6 : (if (50 : Int) < (L : Int) then (50 : Int) else (L : Int)) = (L : Int) := if_neg (by omega)
                go_wp2_with fail
                rw [← hwa]
                clear hwa
                go_region_held3 (fun w' => w'.cell? ⟨wr.heap.size, 2, none⟩ = some (.slice A L C)) (first | exact hA2 | exact (hk3.cell hsz hne).trans hA2)
                  (first | (go_at_call 33; refine HCALL.out.mono ?_; rintro e w3 ⟨u3, rfl, hu3, v3, he3, hk3, hv3⟩) | (go_at_call 18; refine (same_eq _ _ _ _ hu3.rd (HRD.out.below (hBd.trans (hk3.below hBa.size (fun i hi => by subst hi; exact hbase))))).mono ?_; rintro e w4 ⟨rfl, rfl⟩))
                all_goals
                  have hB3 : Below w.heap.size w w3 := hBd.trans (hk3.below hBa.size (fun i hi => by subst hi; exact hbase))
                  go_wp2_with fail
                  go_roundw
                  case rel => exact ⟨j + 1, v3, by omega, by go_num, he3, hB3⟩
                  case measure => simp [intOf]; omega
              · rw [show min L 50 = 50 by omega] at hrd hlen
                have HLEN := hid hlen
                have hrd1 : Rd wa.drew (.slice A (50) C) o.t := hrd.below hBd
                have hcall := eyetext_st _ _ _ _ wa.drew (EyeSt.drew hea) (by rw [← HTK.out]; exact hlim.out)
                rw [stText_text _ _ (by omega)] at hcall
                have HCALL := hid hcall
                have HRD := hid hrd
                clear hcall hea he hlen hrd hrd1
                have f1 : (0 : Int) ≤ (L : Int) := by omega
                have f0 : ¬ (L : Int) ≤ 50 := by omega
                have f2 : (L : Int) ≤ (C : Int) := by omega
                have f3 : min (L : Int) 50 = 50 := by omega
                have f4 : (50 : Int) ≤ (C : Int) := by omega
                go_wp2_with fail
                rw [← hwa]
                clear hwa
                go_region_held3 (fun w' => w'.cell? ⟨wr.heap.size, 2, none⟩ = some (.slice A L C)) (first | exact hA2 | exact (hk3.cell hsz hne).trans hA2)
                  (first | (go_at_call 33; refine HCALL.out.mono ?_; rintro e w3 ⟨u3, rfl, hu3, v3, he3, hk3, hv3⟩) | (go_at_call 18; refine (same_eq _ _ _ _ hu3.rd (HRD.out.below (hBd.trans (hk3.below hBa.size (fun i hi => by subst hi; exact hbase))))).mono ?_; rintro e w4 ⟨rfl, rfl⟩))
                all_goals
                  have hB3 : Below w.heap.size w w3 := hBd.trans (hk3.below hBa.size (fun i hi => by subst hi; exact hbase))
                  go_wp2_with fail
                  go_roundw
                  case rel => exact ⟨j + 1, v3, by omega, by go_num, he3, hB3⟩
                  case measure => simp [intOf]; omega
          · obtain rfl : 60 = j := by omega
            have hnil : wroteAll (os.drop (60)) = [] := by rw [List.drop_eq_nil_of_le (by rw [HOL.out]; exact Nat.le_refl _)]; rfl
            rw [hnil] at he
            go_wp2_with fail
            refine (eyeend_good _ _ _ _ he).mono ?_
            rintro e w9 ⟨rfl, rfl⟩
            go_wp2
            go_ret
            exact ⟨rfl, hB⟩

/-! ### THE ROW's STEP: WRITTEN OUT: LEAVE IT -/
set_option maxRecDepth 100000 in
theorem lifted (os : Os) (started : os.Started) (H : Type) (enc : TypeId × Value → H) :
    ReturnsInHanded {} Try.checked os 7 .any (Rows.inkBackSpec.pre6 enc Try.prog Try.f7 Rows.inkBackRow.domain false) (Rows.inkBackSpec.post enc Try.prog Try.f7 false true false false) := by
  refine returnsInHanded_of_change (C := Try.checked) own started (by kernel_rfl) Try.func7
    (ChangeSpec.witness6 (enc := enc) (C := Try.checked) false ⟨#[], #[.slice none 0 0], []⟩ 8 (by kernel_rfl) (by kernel_rfl) (by kernel_rfl) (by kernel_rfl)) ?_
  intro W base args ds gs before hval0 hW hcnd _
  have hval : ∀ (j : Nat) t v, Try.f7.params[j]? = some t → args[j]? = some v → Value.okWide Try.prog W .any base t v := hval0
  have hW' := hW
  obtain ⟨p, q, hA0, hV, rfl, hfz, hnd⟩ := hW
  have hA : DataW.TrodAll enc Try.prog W 0 (fun _ => true) true Try.f7.params.toList args.toList ds p := hA0
  rw [Try.params7] at hA hval
  obtain ⟨v0, vs0, d0, ds0, p0, q0, hargs, rfl, rfl, h0, r0⟩ := trodAll_cons hA
  obtain ⟨rfl, rfl, rfl⟩ := trodAll_nil r0
  obtain rfl : args = #[v0] := by cases args; simp_all
  obtain ⟨rfl, rfl⟩ := trodVars_none hV
  obtain ⟨a0, len0, cap0, rfl⟩ := okWide_slice Try.underlying36 (hval 0 36 v0 rfl rfl)
  have k0 := h0
  have lt0 : ∀ x ∈ p0, x.block < W.heap.size := by obtain ⟨m, hm⟩ := k0; exact DataW.trod_lt m _ _ _ hm
  have w0 : IsOps W a0 len0 cap0 := isOps_of h0
  clear hA0 hval0
  refine (walk a0 len0 cap0 W w0).mono fun e W' ⟨he, bel⟩ => ?_
  subst he
  exact ⟨_, rfl, _, _, _, [], _, [], hW', trodAll_mk1 (shut_bool Try.underlying4 _), (trodAll_cons_mk (Below.trod laidOut (by kernel_rfl) (of_decide_eq_true (by kernel_rfl)) k0 bel lt0) trodAll_mk0), rfl, bel.frame _, fun h => by cases h⟩

theorem over : Rows.inkBackRow.holds Try.pinned (OpenSpec.ofChange Rows.inkBackSpec) :=
  OpenClaim.holds_of_wide 7 Try.f7 rfl rfl rfl rfl rfl rfl rfl ⟨rfl, rfl, rfl, rfl, rfl⟩ rfl rfl rfl rfl rfl (by kernel_rfl) Try.func7 (by kernel_rfl)
    (of_decide_eq_true (by kernel_rfl)) (by unfold Func.isWrapper; first | (rw [if_pos (by decide +kernel)]; kernel_rfl) | (rw [if_neg (by decide +kernel)]; exact ⟨rfl, rfl⟩))
    (fun os started H enc _ => lifted os started H enc)

/-- ████ THE STATEMENT ████ -/
theorem inkBack_holds : Rows.InkBackSaid := over
#print axioms inkBack_holds
end Go.Proofs.Ytoglhleljknhcaa.inkBack
