/-
  slices.Sort at []uint32: bits.Len (the library's contract, laid), nextPowerOfTwo, xorshift.Next, breakPatternsOrdered.
-/
import Derived.Test.YtdongghjchnpbaaSrtG
import Derived.Shelf.Small.Bits
import Derived.Shelf.Strconv.Itoa0
import Derived.Sort.Walk7
import Derived.LoopTactic
import Derived.RegionTactic
import Derived.Deep.QuietTactic
import Derived.BigQuiet
import Derived.BigRegion
namespace Go.Proofs.Ytdongghjchnpbaa
open Go.RowKit
set_option linter.unusedVariables false

def renLen : Go.Shelf.Ren := ⟨fun | 125 => 74 | 128 => 94 | 129 => 95 | n => n, fun | 46 => 132 | 3 => 3 | 51 => 33 | 53 => 150 | 4 => 4 | 5 => 5 | 9 => 9 | n => n, fun | n => n⟩
theorem laysLen : Go.Proofs.Lays.n125 Try.prog renLen := {
  mixed := by kernel_rfl
  f125 := Try.func74.trans (congrArg some (by kernel_rfl))
  f128 := Try.func94.trans (congrArg some (by kernel_rfl))
  f129 := Try.func95.trans (congrArg some (by kernel_rfl))
  t3 := Try.underlying3
  a3 := Try.isAgg3
  z3 := Try.sizeOf3
  v3 := Try.zeroValue3
  t4 := Try.underlying4
  a4 := Try.isAgg4
  z4 := Try.sizeOf4
  v4 := Try.zeroValue4
  t5 := Try.underlying5
  a5 := Try.isAgg5
  z5 := Try.sizeOf5
  v5 := Try.zeroValue5
  t9 := Try.underlying9
  a9 := Try.isAgg9
  z9 := Try.sizeOf9
  v9 := Try.zeroValue9
  t46 := Try.underlying132
  a46 := Try.isAgg132
  z46 := Try.sizeOf132
  v46 := Try.zeroValue132
  t51 := Try.underlying33
  a51 := Try.isAgg33
  z51 := Try.sizeOf33
  v51 := Try.zeroValue33
  t53 := Try.underlying150
  a53 := Try.isAgg150
  z53 := Try.sizeOf150
  v53 := Try.zeroValue150
}
theorem len_any (n : Nat) (hn : n < 4611686018427387904) (w : World) : Calls Try.prog 74 #[.int .u64 (n : Int)] w fun e w' => e = .returned (.int .i64 (Sort.bitsLen n : Nat)) ∧ w' = w := by
  have h : Calls Try.prog 74 #[.int .u64 (n : Int)] w fun e w' => e = .returned (.int .i64 (Lib.bitLen (n : Int).toNat)) ∧ w' = w := Any.bits_Len laysLen (n : Int) w (by omega) (by omega)
  rwa [Int.toNat_natCast, bitLen_eq _ (by omega)] at h

theorem pow_any (n : Nat) (hn : n < 4611686018427387904) (w : World) : Calls Try.prog 100 #[.int .i64 (n : Int)] w fun e w' => e = .returned (.int .u64 ((1 <<< Sort.bitsLen n : Nat) : Int)) ∧ w' = w := by
  have hk : Sort.bitsLen n ≤ 62 := (Sort.bitsLen_le_iff n 62).2 (by omega)
  have hp := wrap_two_pow (Sort.bitsLen n) hk
  have wr : IntKind.u64.wrap (n : Int) = n := by simp [IntKind.wrap, IntKind.bits, IntKind.signed]; omega
  go_enter Try.func100, Try.ntmps100
  go_wp2_with fail
  refine (len_any n hn w).mono ?_
  rintro e w' ⟨rfl, rfl⟩
  go_wp2
  go_ret
  exact ⟨rfl, rfl⟩

/-- The cell holds the generator's next number and that is handed back. -/
theorem xor_any (rb X : Nat) (hX : X < 18446744073709551616) (w : World) (hc : w.cell? ⟨rb, 0, none⟩ = some (.int .u64 X)) (hf : w.frozen? ⟨rb, 0, none⟩ = false) :
    Calls Try.prog 101 #[.pointer (some ⟨rb, 0, none⟩)] w fun e w' => e = .returned (.int .u64 (Sort.xorNextN X : Nat)) ∧ w' = (w.setCell ⟨rb, 0, none⟩ (.int .u64 (Sort.xorNextN X : Nat))).drewN 3 := by
  obtain ⟨s1, h1⟩ : ∃ s : Nat, s = X ^^^ (X * 8192 % 18446744073709551616) := ⟨_, rfl⟩
  obtain ⟨s2, h2⟩ : ∃ s : Nat, s = s1 ^^^ (s1 / 128) := ⟨_, rfl⟩
  obtain ⟨s3, h3⟩ : ∃ s : Nat, s = s2 ^^^ (s2 * 131072 % 18446744073709551616) := ⟨_, rfl⟩
  have b1 : s1 < 18446744073709551616 := by rw [h1]; exact Nat.xor_lt_two_pow (n := 64) (by omega) (by omega)
  have b2 : s2 < 18446744073709551616 := by rw [h2]; exact Nat.xor_lt_two_pow (n := 64) (by omega) (by omega)
  have q1 : bits .xor .u64 (X : Int) (IntKind.u64.wrap ((X : Int) * 8192)) = (s1 : Int) := by
    rw [IntKind.wrap_u64, show ((X : Int) * 8192 % 18446744073709551616) = ((X * 8192 % 18446744073709551616 : Nat) : Int) by omega, bits_xor_u64_nat _ _ hX (by omega), h1]
  have q2 : bits .xor .u64 (s1 : Int) ((s1 : Int) / 128) = (s2 : Int) := by
    rw [show ((s1 : Int) / 128) = ((s1 / 128 : Nat) : Int) by omega, bits_xor_u64_nat _ _ b1 (by omega), h2]
  have q3 : bits .xor .u64 (s2 : Int) (IntKind.u64.wrap ((s2 : Int) * 131072)) = (s3 : Int) := by
    rw [IntKind.wrap_u64, show ((s2 : Int) * 131072 % 18446744073709551616) = ((s2 * 131072 % 18446744073709551616 : Nat) : Int) by omega, bits_xor_u64_nat _ _ b2 (by omega), h3]
  have hv : Sort.xorNextN X = s3 := by unfold Sort.xorNextN; simp only []; rw [← h1, ← h2, ← h3]
  rw [hv]
  clear h1 h2 h3 hv
  have hss : ∀ v v', (w.setCell ⟨rb, 0, none⟩ v).setCell ⟨rb, 0, none⟩ v' = w.setCell ⟨rb, 0, none⟩ v' := setCell_setCell w rb 0
  go_enter Try.func101, Try.ntmps101
  go_wp2
  go_region
  all_goals go_wp2
  all_goals go_region
  all_goals go_wp2
  all_goals go_region
  all_goals go_wp2
  go_ret
  exact ⟨rfl, rfl⟩

theorem heap_setCell_ne {w : World} {p : Addr} {k : Nat} {u : Value} (h : p.block ≠ k) : (w.setCell p u).heap[k]? = w.heap[k]? := by
  have hk := (Keeps.refl (fun j => j = p.block) w).setCell (p := p) (fun _ => rfl) u
  by_cases hs : k < w.heap.size
  · exact hk.block k hs (fun e => h e.symm)
  · rw [Array.getElem?_eq_none (by have : (w.setCell p u).heap.size = w.heap.size := World.size_setCell _ _ _; omega), Array.getElem?_eq_none (by omega)]

set_option maxHeartbeats 4000000 in
theorem break_any (w : World) (g off n cap : Nat) (pre tl : List Value) (d : Array Nat) (a b : Nat) (h : ArrAt w g off pre tl d) (hn : d.size ≤ n) (hab : a + 12 < b) (hb : b ≤ d.size) (hm : n ≤ 1000000000000) :
    Calls Try.prog 87 #[.slice (some ⟨g, off, none⟩) n cap, .int .i64 a, .int .i64 b] w fun e w' => (∃ u, e = .returned u) ∧ Made w g off pre tl (Sort.breakPatterns d a b) w' := by
  obtain ⟨L, rfl⟩ : ∃ L, b = a + L := ⟨b - a, by omega⟩
  obtain ⟨b, hbb⟩ : ∃ b, b = a + L := ⟨_, rfl⟩
  obtain ⟨M, hM⟩ : ∃ M : Nat, M = 1 <<< Sort.bitsLen L := ⟨_, rfl⟩
  have hM1 : 1 ≤ M := by rw [hM, Nat.one_shiftLeft]; exact Nat.two_pow_pos _
  have hM2 : M ≤ 2 * L := by rw [hM, Nat.one_shiftLeft]; exact Sort.two_pow_bitsLen_le (by omega)
  obtain ⟨Q, hQ⟩ : ∃ Q, Q = L / 4 := ⟨_, rfl⟩
  obtain ⟨Q2, hQ2⟩ : ∃ Q2, Q2 = Q * 2 := ⟨_, rfl⟩
  obtain ⟨aq, haq⟩ : ∃ aq, aq = a + Q2 := ⟨_, rfl⟩
  obtain ⟨top, htop⟩ : ∃ top, top = aq + 1 := ⟨_, rfl⟩
  obtain ⟨i0, hi0⟩ : ∃ i0, i0 = aq - 1 := ⟨_, rfl⟩
  obtain ⟨M1, hM1'⟩ : ∃ M1, M1 = M - 1 := ⟨_, rfl⟩
  obtain ⟨FF, hFF⟩ : ∃ FF, FF = Sort.breakPatterns d a (a + L) := ⟨_, rfl⟩
  have e0 : (b : Int) - (a : Int) = (L : Int) := by omega
  have e1 : (L : Int) / 4 = (Q : Int) := by omega
  have e2 : (L : Int).tdiv 4 = (Q : Int) := by rw [Int.tdiv_eq_ediv_of_nonneg (by omega)]; exact e1
  have e3 : (Q : Int) * 2 = (Q2 : Int) := by omega
  have e4 : (a : Int) + (Q2 : Int) = (aq : Int) := by omega
  have e5 : (aq : Int) + 1 = (top : Int) := by omega
  have e6 : (aq : Int) - 1 = (i0 : Int) := by omega
  have e7 : (M : Int) - 1 = (M1 : Int) := by omega
  have g8 : (8 : Int) ≤ (L : Int) := by omega
  have HNP := hid (show ∀ w, Calls Try.prog 100 #[.int .i64 (L : Int)] w fun e w' => e = .returned (.int .u64 (M : Int)) ∧ w' = w by rw [hM]; exact fun w => pow_any L (by omega) w)
  have HF := hid (show bpRest a L M i0 3 0 (UInt64.ofNat L, d) = FF by rw [hFF, breakPatterns_eq d a L (by omega), ← hM, ← hQ, ← hQ2, ← haq, ← hi0])
  have HBD := hid (show 12 < L ∧ a + L ≤ d.size ∧ i0 + 2 = top ∧ top + 4 ≤ a + L ∧ 1 ≤ M ∧ M ≤ 2 * L ∧ M1 + 1 = M by omega)
  have HSN := hid hn
  have LB : (L : Int) ≤ 1000000000000 := by omega
  have MB : (M : Int) ≤ 2000000000000 := by omega
  have bb1 : (a : Int) ≤ 1000000000000 := by omega
  have bb2 : (b : Int) ≤ 1000000000000 := by omega
  have bb3 : (aq : Int) ≤ 1000000000000 := by omega
  have bb4 : (top : Int) ≤ 1000000000000 := by omega
  have bb5 : (Q2 : Int) ≤ 1000000000000 := by omega
  rw [← hbb, show Sort.breakPatterns d a b = FF by rw [hbb, hFF]]
  clear hab hb hn hbb hM hM1 hM2 hQ hQ2 haq htop hi0 hM1' hFF
  have HGL := hid h.lt
  have HST := hid (show (w.alloc (Obj.cells #[.int .u64 (L : Int)] 153)).heap[w.heap.size]? = some (.cells #[.int .u64 (L : Int)] 153 (0, 0)) from heap_alloc_new w _)
  have HSM := hid (show Made w g off pre tl d (w.alloc (Obj.cells #[.int .u64 (L : Int)] 153)) from ⟨h.block (((Keeps.refl (fun k => k = w.heap.size) w).alloc _).block g h.lt (by have := h.lt; omega)), (Keeps.refl _ w).alloc _⟩)
  clear h
  go_enter Try.func87, Try.ntmps87
  go_wp2_with fail
  refine (HNP.out _).mono ?_
  rintro e w' ⟨rfl, rfl⟩
  go_wp2_with fail
  go_loopw [9] (fun vi wr => ∃ (t i : Nat) (r : UInt64) (R : Nat) (dk : Array Nat), t ≤ 3 ∧ i = i0 + t ∧ vi = .int .i64 i ∧ R = r.toNat ∧ R < 18446744073709551616 ∧ dk.size = d.size ∧ wr.heap[w.heap.size]? = some (.cells #[.int .u64 (R : Int)] 153 (0, 0)) ∧ Made w g off pre tl dk wr ∧ bpRest a L M i0 (3 - t) t (r, dk) = FF) (fun vi _ => i0 + 3 - (intOf vi).toNat)
  case atStart => exact ⟨0, i0, UInt64.ofNat L, L, d, by omega, rfl, by go_num, by simp; omega, by omega, rfl, HST.out, HSM.out, HF.out⟩
  case round =>
    obtain ⟨t, i, r, R, dk, ht, hi, rfl, hR1, hR2, hsz, hB, hM, hF⟩ := hrel
    have HI := hid (show i = i0 + t ∧ t ≤ 3 ∧ i ≤ i0 + 3 by omega)
    have HSK := hid hsz
    have HB := hid hB
    have HM := hid hM
    have HF := hid hF
    have HR := hid (show R = r.toNat ∧ R < 18446744073709551616 from ⟨hR1, hR2⟩)
    have ib : (i : Int) ≤ 1000000000000 := by have := HBD.out; omega
    clear hi hsz hB hM hF hR1 hR2
    by_cases ht3 : t < 3
    · have hit : (i : Int) ≤ (top : Int) := by have := HI.out; have := HBD.out; omega
      obtain ⟨R', hR'⟩ : ∃ R', R' = Sort.xorNextN R := ⟨_, rfl⟩
      have HR2 := hid (show R' = (Sort.xorNext r).toNat ∧ R' < 18446744073709551616 by
        rw [Sort.xorNext_toNat, ← HR.out.1]
        exact ⟨hR', by rw [hR']; exact Sort.xorNextN_lt R HR.out.2⟩)
      have hNext := xor_any w.heap.size R HR.out.2 wr (by rw [cell_of_row _ _ _ _ _ _ HB.out]; rfl) (frozen_of_row _ _ _ _ _ HB.out)
      rw [← hR'] at hNext
      have HNX := hid hNext
      clear hNext hR'
      obtain ⟨O, hO⟩ : ∃ O : Nat, O = R' &&& M1 := ⟨_, rfl⟩
      have lO : O ≤ M1 := by rw [hO]; exact Nat.and_le_right
      have eAnd : bits .and .u64 (R' : Int) (M1 : Int) = (O : Int) := by
        have := HBD.out; rw [bits_and_u64_nat _ _ HR2.out.2 (by omega), hO]
      have HO := hid (show O = R' &&& (M - 1) by rw [hO, show M - 1 = M1 by have := HBD.out; omega])
      have OB : (O : Int) ≤ 2000000000000 := by have := HBD.out; omega
      have HGW := hid (show g ≠ w.heap.size by have := HGL.out; omega)
      have PBs : O < 2 * L := by have := HBD.out; omega
      clear hO lO
      go_wp2_with fail
      refine HNX.out.mono ?_
      rintro e w' ⟨rfl, rfl⟩
      have HM2 := hid (show Made w g off pre tl dk ((wr.setCell ⟨w.heap.size, 0, none⟩ (.int .u64 (R' : Int))).drewN 3) from
        Made.drew ⟨HM.out.arr.block (heap_setCell_ne (by simpa using fun e => HGW.out e.symm)), HM.out.keeps.setCell (fun e => absurd e (Nat.lt_irrefl _)) _⟩ 3)
      have HB2 := hid (show ((wr.setCell ⟨w.heap.size, 0, none⟩ (.int .u64 (R' : Int))).drewN 3).heap[w.heap.size]? = some (.cells #[.int .u64 (R' : Int)] 153 (0, 0)) from (heap_setCell_at _ _ _ _ _ _ _ HB.out).trans rfl)
      generalize (wr.setCell ⟨w.heap.size, 0, none⟩ (.int .u64 (R' : Int))).drewN 3 = ws at *
      by_cases hLO : O ≥ L
      · obtain ⟨p, hp⟩ : ∃ p, p = O - L := ⟨_, rfl⟩
        obtain ⟨k, hk⟩ : ∃ k, k = a + p := ⟨_, rfl⟩
        have ep : (O : Int) - (L : Int) = (p : Int) := by omega
        have ek : (a : Int) + (p : Int) = (k : Int) := by omega
        have LI : (L : Int) ≤ (O : Int) := by omega
        have PB := hid (show (if O ≥ L then O - L else O) = p ∧ p < L by rw [if_pos hLO]; omega)
        have pb : (p : Int) ≤ 1000000000000 := by omega
        have kb : (k : Int) ≤ 1000000000000 := by omega
        have HKK := hid hk
        have si : i < dk.size := by have := HI.out; have := HBD.out; have := HSK.out; omega
        have sk : k < dk.size := by have := HBD.out; have := HSK.out; have := PB.out.2; omega
        have SIJ := hid (show i < dk.size ∧ k < dk.size from ⟨si, sk⟩)
        have c1 := HM2.out.arr.cell i si
        have c2 := HM2.out.arr.cell k sk
        have f1 := HM2.out.arr.frozen (off + i)
        have f2 := HM2.out.arr.frozen (off + k)
        obtain ⟨v', hy'⟩ := cell?_setCell_some (w := ws) (p := ⟨g, off + i, none⟩) (x := .int .u32 ((dk[k]! : Nat) : Int)) (q := ⟨g, off + k, none⟩) c2
        have z1 : (i : Int) < (n : Int) := by have := HSN.out; have := SIJ.out; have := HSK.out; omega
        have z2 : (k : Int) < (n : Int) := by have := HSN.out; have := SIJ.out; have := HSK.out; omega
        have z3 : i < n := by omega
        have z4 : k < n := by omega
        clear si sk hk hp PBs
        generalize hx : dk[i]! = x at *
        generalize hy : dk[k]! = y at *
        have HX := hid hx
        have HY := hid hy
        clear hx hy hLO
        go_wp2_with fail
        go_region
        all_goals skip
        obtain ⟨HM3, HB3⟩ : Hid (Made w g off pre tl (Sort.swp dk i k) ((ws.setCell ⟨g, off + i, none⟩ (.int .u32 (y : Int))).setCell ⟨g, off + k, none⟩ (.int .u32 (x : Int)))) ∧ Hid (((ws.setCell ⟨g, off + i, none⟩ (.int .u32 (y : Int))).setCell ⟨g, off + k, none⟩ (.int .u32 (x : Int))).heap[w.heap.size]? = some (.cells #[.int .u64 (R' : Int)] 153 (0, 0))) := by
          constructor
          · have := HM2.out.swap i k SIJ.out.1 SIJ.out.2
            rw [HX.out, HY.out] at this
            exact hid this
          · exact hid (by rw [heap_setCell_ne (by exact HGW.out), heap_setCell_ne (by exact HGW.out)]; exact HB2.out)
        clear hy' c1 c2 f1 f2 z1 z2 z3 z4 HX HY
        go_wp2
        go_roundw
        case rel => exact ⟨t + 1, i + 1, Sort.xorNext r, R', Sort.swp dk i k, by omega, by have := HI.out; omega, by go_num, HR2.out.1, HR2.out.2, by rw [swp_size]; exact HSK.out, HB3.out.trans rfl, HM3.out.drew1, by rw [← HF.out, bp_step a L M i0 t r dk p (by omega) (by rw [← HR2.out.1, ← HO.out]; exact PB.out.1), show i0 + t = i from HI.out.1.symm, ← HKK.out]⟩
        case measure => have := HI.out; simp [intOf]; omega

      · have hp : True := trivial
        obtain ⟨k, hk⟩ : ∃ k, k = a + O := ⟨_, rfl⟩
        have ep : True := trivial
        have ek : (a : Int) + (O : Int) = (k : Int) := by omega
        have LI : ¬ (L : Int) ≤ (O : Int) := by omega
        have PB := hid (show (if O ≥ L then O - L else O) = O ∧ O < L by rw [if_neg hLO]; omega)
        have pb : (O : Int) ≤ 1000000000000 := by omega
        have kb : (k : Int) ≤ 1000000000000 := by omega
        have HKK := hid hk
        have si : i < dk.size := by have := HI.out; have := HBD.out; have := HSK.out; omega
        have sk : k < dk.size := by have := HBD.out; have := HSK.out; have := PB.out.2; omega
        have SIJ := hid (show i < dk.size ∧ k < dk.size from ⟨si, sk⟩)
        have c1 := HM2.out.arr.cell i si
        have c2 := HM2.out.arr.cell k sk
        have f1 := HM2.out.arr.frozen (off + i)
        have f2 := HM2.out.arr.frozen (off + k)
        obtain ⟨v', hy'⟩ := cell?_setCell_some (w := ws) (p := ⟨g, off + i, none⟩) (x := .int .u32 ((dk[k]! : Nat) : Int)) (q := ⟨g, off + k, none⟩) c2
        have z1 : (i : Int) < (n : Int) := by have := HSN.out; have := SIJ.out; have := HSK.out; omega
        have z2 : (k : Int) < (n : Int) := by have := HSN.out; have := SIJ.out; have := HSK.out; omega
        have z3 : i < n := by omega
        have z4 : k < n := by omega
        clear si sk hk hp PBs
        generalize hx : dk[i]! = x at *
        generalize hy : dk[k]! = y at *
        have HX := hid hx
        have HY := hid hy
        clear hx hy hLO
        go_wp2_with fail
        go_region
        all_goals skip
        obtain ⟨HM3, HB3⟩ : Hid (Made w g off pre tl (Sort.swp dk i k) ((ws.setCell ⟨g, off + i, none⟩ (.int .u32 (y : Int))).setCell ⟨g, off + k, none⟩ (.int .u32 (x : Int)))) ∧ Hid (((ws.setCell ⟨g, off + i, none⟩ (.int .u32 (y : Int))).setCell ⟨g, off + k, none⟩ (.int .u32 (x : Int))).heap[w.heap.size]? = some (.cells #[.int .u64 (R' : Int)] 153 (0, 0))) := by
          constructor
          · have := HM2.out.swap i k SIJ.out.1 SIJ.out.2
            rw [HX.out, HY.out] at this
            exact hid this
          · exact hid (by rw [heap_setCell_ne (by exact HGW.out), heap_setCell_ne (by exact HGW.out)]; exact HB2.out)
        clear hy' c1 c2 f1 f2 z1 z2 z3 z4 HX HY
        go_wp2
        go_roundw
        case rel => exact ⟨t + 1, i + 1, Sort.xorNext r, R', Sort.swp dk i k, by omega, by have := HI.out; omega, by go_num, HR2.out.1, HR2.out.2, by rw [swp_size]; exact HSK.out, HB3.out.trans rfl, HM3.out.drew1, by rw [← HF.out, bp_step a L M i0 t r dk O (by omega) (by rw [← HR2.out.1, ← HO.out]; exact PB.out.1), show i0 + t = i from HI.out.1.symm, ← HKK.out]⟩
        case measure => have := HI.out; simp [intOf]; omega

    · have hit : ¬ (i : Int) ≤ (top : Int) := by have := HI.out; have := HBD.out; omega
      have HE := hid (show dk = FF by rw [← HF.out, show t = 3 by have := HI.out; omega]; rfl)
      clear ht3
      go_wp2
      go_end0
      exact ⟨⟨_, rfl⟩, by rw [← HE.out]; exact HM.out⟩

end Go.Proofs.Ytdongghjchnpbaa
