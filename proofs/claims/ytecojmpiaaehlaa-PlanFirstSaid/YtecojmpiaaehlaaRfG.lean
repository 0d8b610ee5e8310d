/-
  The law's same of two profiles that are alike.
-/
import Derived.Test.YtecojmpiaaehlaaRfS
namespace Go.Proofs.Ytecojmpiaaehlaa
open Go.RowKit Go.Shelf Go.ChangeShapes
set_option linter.unusedVariables false

set_option maxRecDepth 100000 in
set_option maxHeartbeats 4000000 in
theorem samep_any (w : World) (u v : Value) (P : List (List Int)) (hu : RdP w u P) (hv : RdP w v P) (hl : P.length ≤ 1000) (hrl : ∀ r ∈ P, r.length ≤ 1000) :
    Calls Try.prog 17 #[u, v] w fun e w' => e = .returned (.bool true) ∧ Below w.heap.size w w' := by
  obtain ⟨ua, uc, rfl, hu1, hu2⟩ := hu.len
  obtain ⟨va, vc, rfl, hv1, hv2⟩ := hv.len
  have HU := hid hu
  have HV := hid hv
  have HRL := hid hrl
  clear hu hv hrl
  generalize hn : P.length = n at *
  have HN := hid hn
  clear hn
  go_enter Try.func17, Try.ntmps17
  go_wp2_with fail
  go_loopw [14] (fun i wr => ∃ k : Nat, k ≤ n ∧ i = .int .i64 k ∧ Below w.heap.size w wr) (fun i _ => n - (intOf i).toNat)
  case atStart => exact ⟨0, Nat.zero_le _, rfl, Below.refl _ _⟩
  case round =>
    obtain ⟨y1, hy1⟩ : ∃ y, y = wr := ⟨_, rfl⟩
    subst hy1
    obtain ⟨k, hk, rfl, hB⟩ := hrel
    have HB := hid hB
    by_cases hlt : k < n
    · obtain ⟨r, hr⟩ : ∃ r, P[k]? = some r := ⟨_, List.getElem?_eq_getElem (by rw [HN.out]; exact hlt)⟩
      have hrlen := HRL.out r (List.mem_of_getElem? hr)
      obtain ⟨bu, ou, rfl, a1, c1, hcu, h11, h12, hr1⟩ := (HU.out.all hB).at k r hr
      obtain ⟨bv, ov, rfl, a2, c2, hcv, h21, h22, hr2⟩ := (HV.out.all hB).at k r hr
      have hki : (k : Int) < (n : Int) := by omega
      have HR1 := hid hr1
      have HR2 := hid hr2
      generalize hrn : r.length = m at *
      have HM := hid hrn
      clear hB hr hr1 hr2 hrn
      go_wp2_with fail
      go_quiet (fail)
      obtain ⟨y2, hy2⟩ : ∃ y, y = y1.drewN nq := ⟨_, rfl⟩
      rw [← hy2]
      have hbu := World.block_lt_of_cell? _ _ hcu
      have hbv := World.block_lt_of_cell? _ _ hcv
      have hB2 : Below y1.heap.size y1 y2 := by rw [hy2]; exact below_behind (Below.refl _ _) _
      have hcu2 : y2.cell? ⟨bu, ou + k, none⟩ = some (.slice a1 m c1) := (hB2.cell (p := ⟨bu, ou + k, none⟩) hbu).trans hcu
      have hcv2 : y2.cell? ⟨bv, ov + k, none⟩ = some (.slice a2 m c2) := (hB2.cell (p := ⟨bv, ov + k, none⟩) hbv).trans hcv
      have HCU := hid hcu2
      have HCV := hid hcv2
      have hb2 : bu < y2.heap.size ∧ bv < y2.heap.size := ⟨World.block_lt_of_cell? _ _ hcu2, World.block_lt_of_cell? _ _ hcv2⟩
      have HBL := hid hb2
      have HR12 := hid (HR1.out.all hB2)
      have HR22 := hid (HR2.out.all hB2)
      have HB12 := hid (HB.out.trans (hB2.mono HB.out.size))
      clear hy2 hcu hcv hcv2 hbu hbv hb2 hB2 HR1 HR2
      go_wp2_with fail
      clear hcu2
      go_loopw [33] (fun i wr => ∃ q : Nat, q ≤ m ∧ i = .int .i64 q ∧ Below y2.heap.size y2 wr) (fun i _ => m - (intOf i).toNat)
      case atStart => exact ⟨0, Nat.zero_le _, rfl, Below.refl _ _⟩
      case round =>
        obtain ⟨y3, hy3⟩ : ∃ y, y = wr := ⟨_, rfl⟩
        subst hy3
        obtain ⟨q, hq, rfl, hB⟩ := hrel
        have HB3 := hid hB
        by_cases hql : q < m
        · obtain ⟨x, hx⟩ : ∃ x, r[q]? = some x := ⟨_, List.getElem?_eq_getElem (by rw [HM.out]; exact hql)⟩
          obtain ⟨-, g1, o1, rfl, -, hc1⟩ := (HR12.out.all hB).at q (iw x) (by rw [List.getElem?_map, hx]; rfl)
          obtain ⟨-, g2, o2, rfl, -, hc2⟩ := (HR22.out.all hB).at q (iw x) (by rw [List.getElem?_map, hx]; rfl)
          have d1 : y3.cell? ⟨g1, o1 + q, none⟩ = some (.int .i64 x) := hc1
          have d2 : y3.cell? ⟨g2, o2 + q, none⟩ = some (.int .i64 x) := hc2
          have d3 : y3.cell? ⟨bu, ou + k, none⟩ = some (.slice (some ⟨g1, o1, none⟩) m c1) := (hB.cell (p := ⟨bu, ou + k, none⟩) HBL.out.1).trans HCU.out
          have d4 : y3.cell? ⟨bv, ov + k, none⟩ = some (.slice (some ⟨g2, o2, none⟩) m c2) := (hB.cell (p := ⟨bv, ov + k, none⟩) HBL.out.2).trans HCV.out
          have hqi : (q : Int) < (m : Int) := by omega
          clear hB hc1 hc2 hx
          go_wp2_with fail
          go_quiet (fail)
          go_wp2_with fail
          go_roundw
          case rel => exact ⟨q + 1, hql, by go_num, below_behind HB3.out _⟩
          case measure => simp [intOf]; omega
        · have e : q = m := by omega
          have hqi : ¬ (q : Int) < (m : Int) := by omega
          clear hB e hql
          go_wp2
          go_roundw
          case rel => exact ⟨k + 1, hlt, by go_num, HB12.out.trans (HB3.out.mono HB12.out.size)⟩
          case measure => simp [intOf]; omega
    · have e : k = n := by omega
      have hki : ¬ (k : Int) < (n : Int) := by omega
      clear e hlt hB
      go_wp2
      go_ret
      exact ⟨rfl, HB.out⟩

end Go.Proofs.Ytecojmpiaaehlaa
