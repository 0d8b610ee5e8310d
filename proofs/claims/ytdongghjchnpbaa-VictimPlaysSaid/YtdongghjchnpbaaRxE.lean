/-
  The document's matrix: Row.
-/
import Derived.Test.YtdongghjchnpbaaStd
import Derived.Test.YtdongghjchnpbaaRowV
import Derived.Test.YtdongghjchnpbaaShfB
namespace Go.Proofs.Ytdongghjchnpbaa
open Go.RowKit Go.Shelf
set_option linter.unusedVariables false

/-- Who stands at a row's first k nodes. -/
def Mx.rowTo (m : Mx) (i k : Nat) : List Nat := Go.Proofs.Ytdongghjchnpbaa.jobs (fun k => m.c (16 * i + k)) ((List.range k).filter fun k => m.c (16 * i + k) != 0)
theorem rowTo_all (m : Mx) (i : Nat) : m.rowTo i m.n = m.row i := rfl
theorem rowTo_zero {m : Mx} {i k : Nat} (h : m.c (16 * i + k) = 0) : m.rowTo i (k + 1) = m.rowTo i k := by
  unfold Mx.rowTo
  rw [List.range_succ, List.filter_append]
  simp [h]
theorem rowTo_succ {m : Mx} {i k : Nat} (h : m.c (16 * i + k) ≠ 0) : m.rowTo i (k + 1) = if (m.rowTo i k).contains (m.c (16 * i + k)) then m.rowTo i k else m.rowTo i k ++ [m.c (16 * i + k)] := by
  unfold Mx.rowTo
  rw [List.range_succ, List.filter_append, List.filter_cons_of_pos (by simpa using h), List.filter_nil, jobs_snoc]
theorem rowTo_mem {m : Mx} {i k j : Nat} : j ∈ m.rowTo i k ↔ ∃ q, q < k ∧ m.c (16 * i + q) ≠ 0 ∧ m.c (16 * i + q) = j := by
  refine (jobs_mem _ _ [] j).trans ?_
  constructor
  · rintro (h | ⟨q, hq, rfl⟩)
    · cases h
    · rw [List.mem_filter, List.mem_range] at hq
      exact ⟨q, hq.1, by simpa using hq.2, rfl⟩
  · rintro ⟨q, h1, h2, rfl⟩
    exact .inr ⟨q, List.mem_filter.2 ⟨List.mem_range.2 h1, by simpa using h2⟩, rfl⟩
theorem rowTo_len (m : Mx) (i k : Nat) : (m.rowTo i k).length ≤ k := Nat.le_trans (jobs_len _ _) (Nat.le_trans (List.length_filter_le _ _) (by simp))

/-- A job's least node. -/
theorem own_head {m : Mx} {i k : Nat} (hk : k < m.n) : ∃ y, (m.own i (m.c (16 * i + k)))[0]? = some y ∧ y ≤ k ∧ m.c (16 * i + y) = m.c (16 * i + k) ∧ ∀ q, q < y → m.c (16 * i + q) ≠ m.c (16 * i + k) := by
  have hm : k ∈ m.own i (m.c (16 * i + k)) := own_mem.2 ⟨hk, rfl⟩
  obtain ⟨y, ys, hy⟩ : ∃ y ys, m.own i (m.c (16 * i + k)) = y :: ys := by
    cases h : m.own i (m.c (16 * i + k)) with
    | nil => rw [h] at hm; cases hm
    | cons y ys => exact ⟨y, ys, rfl⟩
  have hr := own_rising m i (m.c (16 * i + k))
  rw [hy, List.pairwise_cons] at hr
  have hyo : y ∈ m.own i (m.c (16 * i + k)) := by rw [hy]; simp
  refine ⟨y, by rw [hy]; rfl, ?_, (own_mem.1 hyo).2, fun q hq e => ?_⟩
  · rw [hy] at hm
    rcases List.mem_cons.1 hm with h | h
    · omega
    · have := hr.1 k h; omega
  · have hq2 : q ∈ m.own i (m.c (16 * i + k)) := own_mem.2 ⟨by have := (own_mem.1 hyo).1; omega, e⟩
    rw [hy] at hq2
    rcases List.mem_cons.1 hq2 with h | h
    · omega
    · have := hr.1 q h; omega

theorem rrow_nil (w : World) (row : Int) :
    Calls Try.prog 51 #[.pointer none, .int .i64 row] w fun e w' => e = .returned (.slice none 0 0) ∧ w = w' := by
  go_enter Try.func51, Try.ntmps51
  go_wp2_with fail
  go_ret
  exact ⟨rfl, rfl⟩

theorem rrow_no (w : World) (lo : Nat) (G : Geo) (m : Mx) (row : Int) (h : RxAt w lo G m) (hr : row < 0 ∨ (m.r : Int) ≤ row) :
    Calls Try.prog 51 #[.pointer (some ⟨G.x, 0, none⟩), .int .i64 row] w fun e w' => e = .returned (.slice none 0 0) ∧ w = w' := by
  have hc0 := h.c0
  by_cases hlow : row < 0
  · have d1 : decide (row < 0) = true := by simpa using hlow
    clear hr hlow h
    go_enter Try.func51, Try.ntmps51
    go_wp2_with fail
    go_ret
    exact ⟨rfl, rfl⟩
  · have d1 : decide (row < 0) = false := by simpa using hlow
    have hh : (m.r : Int) ≤ row := by omega
    have d2 : decide (row ≥ (m.r : Int)) = true := by simpa using hh
    have d3 : decide ((m.r : Int) ≤ row) = true := by simpa using hh
    clear hr hlow h
    go_enter Try.func51, Try.ntmps51
    go_wp2_with fail
    go_ret
    exact ⟨rfl, rfl⟩

set_option maxHeartbeats 4000000 in
theorem rrow_any (w : World) (lo : Nat) (G : Geo) (m : Mx) (i : Nat) (h : RxAt w lo G m) (ho : One m) (hi : i < m.r) :
    Calls Try.prog 51 #[.pointer (some ⟨G.x, 0, none⟩), .int .i64 i] w fun e w' => ∃ v, e = .returned v ∧ w'.ownsRow w.heap.size 33 1 v (m.row i).length ((m.row i).map uv) ∧ Below w.heap.size w w' := by
  have hc0 := h.c0
  have hrow := h.row i hi
  obtain ⟨hcp1, hcp2⟩ := h.cpn i hi
  have hr8 := h.r8
  have hn16 := h.n16
  have hri : (m.r : Int) ≤ 8 := by omega
  have hni : (m.n : Int) ≤ 16 := by omega
  have hccr := h.ccr
  have hccm := h.ccm
  have hii : (i : Int) < (m.r : Int) := by omega
  have d1 : decide ((i : Int) < 0) = false := by simp
  have d2 : decide ((m.r : Int) ≤ (i : Int)) = false := by simp; omega
  have d3 : decide ((i : Int) ≥ (m.r : Int)) = false := by simp; omega
  have d4 : decide (m.r ≤ i) = false := by simp; omega
  have HX := hid h
  have HO := hid ho
  clear h ho
  go_enter Try.func51, Try.ntmps51
  go_wp2_with fail
  go_loopw [5, 34] (fun v q wr => ∃ k : Nat, k ≤ m.n ∧ q = .int .i64 k ∧ wr.ownsRow w.heap.size 33 1 v (m.rowTo i k).length ((m.rowTo i k).map uv) ∧ Below w.heap.size w wr) (fun _ q _ => m.n - (intOf q).toNat)
  case atStart => exact ⟨0, Nat.zero_le _, rfl, World.ownsRow_nil _ _ _ _, Below.refl _ _⟩
  case round =>
    obtain ⟨k, hk, rfl, hv, hB⟩ := hrel
    have HV := hid hv
    have HK := hid hB
    have hs0 := hB.size
    have HX2 := hid (HX.out.below hB (Nat.le_refl _))
    have hol := rowTo_len m i k
    obtain ⟨av, cv, rfl, hcv1, hcv2⟩ := owns_slice hv
    clear hv hB
    by_cases hkl : k < m.n
    · have hki : (k : Int) < (m.n : Int) := by omega
      have hcell := HX2.out.cell i k hi hkl
      obtain ⟨wq, hwq⟩ : ∃ wq, wq = wr := ⟨_, rfl⟩
      subst hwq
      by_cases hz : m.c (16 * i + k) = 0
      · have HS := hid (rowTo_zero hz)
        rw [hz] at hcell
        clear hz
        go_wp2_with fail
        refine (rof_any wq lo G m 0 HX2.out).mono ?_
        rintro e w2 ⟨v2, rfl, -, hb2⟩
        rw [show m.where 0 = none by unfold Mx.where; rw [if_pos rfl]]
        have HB2 := hid (HK.out.trans (hb2.mono hs0))
        have HV2 := hid (owns_below HV.out hb2)
        clear hb2
        generalize hrl : (m.rowTo i k).length = rl at *
        have HRL := hid hrl
        clear hrl
        go_wp2_with fail
        go_roundw
        case rel => exact ⟨k + 1, hkl, by go_num, by rw [HS.out, HRL.out]; exact HV2.out, HB2.out⟩
        case measure => simp [intOf]; omega
      · have hw : m.where (m.c (16 * i + k)) = some i := (where_iff HO.out).2 ⟨hz, hi, fun e => by
          have : k ∈ m.own i (m.c (16 * i + k)) := own_mem.2 ⟨hkl, rfl⟩
          rw [e] at this; cases this⟩
        have HW := hid hw
        have HZ := hid hz
        obtain ⟨y, hy1, hy2, hy3, hy4⟩ := own_head (i := i) hkl
        have HY1 := hid hy1
        have HY3 := hid hy3
        have HY4 := hid hy4
        have HS := hid (rowTo_succ hz)
        have HMEM := hid (fun j => rowTo_mem (m := m) (i := i) (k := k) (j := j))
        obtain ⟨x, hx⟩ : ∃ x, x = m.c (16 * i + k) := ⟨_, rfl⟩
        rw [← hx] at HW HY1 HY3 HY4 HS hcell
        have HXC := hid hx
        clear hw hz hy1 hy3 hy4 hx
        go_wp2_with fail
        refine (rof_any wq lo G m x HX2.out).mono ?_
        rintro e w2 ⟨v2, rfl, hv2, hb2⟩
        rw [HW.out]
        rw [Mx.nodes_of HW.out] at hv2
        have HB2 := hid (HK.out.trans (hb2.mono hs0))
        have HV2 := hid (owns_below HV.out hb2)
        have hs2 := hb2.size
        obtain ⟨g2, c2, rfl, hn1, hn2, hcy⟩ : ∃ g c, v2 = .slice (some ⟨g, 0, none⟩) (m.own i x).length c ∧ 1 ≤ (m.own i x).length ∧ c ≤ 9223372036854775807 ∧ w2.cell? ⟨g, 0, none⟩ = some (.int .i64 y) := by
          have hpos : 1 ≤ (m.own i x).length := by
            have := (List.getElem?_eq_some_iff.1 HY1.out).1
            omega
          rcases owns_shape hv2 with ⟨_, h0⟩ | ⟨g, c, rfl, _, _, _, h4⟩
          · omega
          · refine ⟨g, c, rfl, hpos, h4, ?_⟩
            have := World.ownsRow.cells hv2 (g := g) rfl 0 (iv y) (by rw [List.getElem?_map, HY1.out]; rfl)
            rwa [Addr.add_lit] at this
        clear hv2 hb2
        generalize (m.own i x).length = ol at *
        have hol1 : (1 : Int) ≤ (ol : Int) := by omega
        by_cases hyk : y = k
        · have HE := hid (show m.rowTo i (k + 1) = m.rowTo i k ++ [x] by
            rw [HS.out, if_neg]
            rw [List.contains_iff_mem]
            intro h
            obtain ⟨q, h1, _, h3⟩ := (HMEM.out x).1 h
            exact HY4.out q (by omega) h3)
          subst hyk
          have hof := hid (owns_below HV2.out ((Below.refl _ _).alloc (Nat.le_refl _) (.cells #[.int .u32 (x : Nat)] 33)))
          have hsrc := hid (SrcC.lit w2 #[.int .u32 (x : Nat)] 33 1 [uv x] rfl)
          generalize hrl : (m.rowTo i y).length = rl at *
          have HRL := hid hrl
          clear hrl
          go_wp2_with (at_builtin; (refine appsw (by rfl) 60 33 (.tmp 54) (.tmp 56) rfl w.heap.size 1 4 _ Try.underlying60 Try.infoU32 rfl (by decide) _ _ rl 1 (rl + 1) _ _ rfl rfl hof.out hsrc.out rfl (by intro z hz; rw [List.mem_singleton] at hz; subst hz; rfl) rfl (by omega) (by omega) (by simp; omega) ?_); intro ad9 cp9 wA hoA hgA; have HOA := hid hoA; have HGA := hid hgA; clear hoA hgA)
          have hbA : Below w.heap.size w wA := (HB2.out.alloc (by omega) (.cells #[.int .u32 (x : Nat)] 33)).grown HGA.out (by simp; omega) (fun g hg => (World.ownsRow.lt HV2.out g hg).1)
          have HBA := hid hbA
          clear hbA
          go_wp2
          go_roundw
          case rel => exact ⟨y + 1, hkl, by go_num, by rw [HE.out, List.length_append, HRL.out, List.map_append]; exact HOA.out, HBA.out⟩
          case measure => simp [intOf]; omega
        · have HE := hid (show m.rowTo i (k + 1) = m.rowTo i k by
            rw [HS.out, if_pos]
            rw [List.contains_iff_mem]
            exact (HMEM.out x).2 ⟨y, by omega, by rw [HY3.out, HXC.out]; exact HZ.out, HY3.out⟩)
          have e1 : ((y : Int) == (k : Int)) = false := by rw [beq_eq_false_iff_ne]; omega
          have e2 : decide (y = k) = false := by simpa using hyk
          have e3 : (y == k) = false := by simpa using hyk
          generalize hrl : (m.rowTo i k).length = rl at *
          have HRL := hid hrl
          clear hrl hyk
          go_wp2_with fail
          go_roundw
          case rel => exact ⟨k + 1, hkl, by go_num, by rw [HE.out, HRL.out]; exact HV2.out, HB2.out⟩
          case measure => simp [intOf]; omega
    · have e : k = m.n := by omega
      have HE := hid (show m.rowTo i k = m.row i by rw [e, rowTo_all])
      have hki : ¬ (k : Int) < (m.n : Int) := by omega
      clear hkl e
      go_wp2
      go_ret
      exact ⟨_, rfl, by rw [← HE.out]; exact HV.out, HK.out⟩

end Go.Proofs.Ytdongghjchnpbaa
