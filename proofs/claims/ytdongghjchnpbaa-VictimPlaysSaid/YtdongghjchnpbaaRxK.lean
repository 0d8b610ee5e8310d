/-
  The document's matrix: Free.
-/
import Derived.Test.YtdongghjchnpbaaRxD
namespace Go.Proofs.Ytdongghjchnpbaa
open Go.RowKit Go.Shelf
set_option linter.unusedVariables false
set_option linter.unusedSimpArgs false

def Mx.freeTo (m : Mx) (i k : Nat) : List Nat := (List.range k).filter fun q => m.c (16 * i + q) == 0 && !m.d q
theorem freeTo_all (m : Mx) (i : Nat) : m.freeTo i m.n = m.free i := rfl
theorem freeTo_succ (m : Mx) (i k : Nat) : m.freeTo i (k + 1) = if m.c (16 * i + k) = 0 ∧ m.d k = false then m.freeTo i k ++ [k] else m.freeTo i k := by
  unfold Mx.freeTo
  rw [List.range_succ, List.filter_append]
  by_cases h : m.c (16 * i + k) = 0 <;> cases hd : m.d k <;> simp [h, hd]
theorem freeTo_len (m : Mx) (i k : Nat) : (m.freeTo i k).length ≤ k := Nat.le_trans (List.length_filter_le _ _) (by simp)

theorem rfree_nil (w : World) (row : Int) :
    Calls Try.prog 39 #[.pointer none, .int .i64 row] w fun e w' => e = .returned (.slice none 0 0) ∧ w = w' := by
  go_enter Try.func39, Try.ntmps39
  go_wp2_with fail
  go_ret
  exact ⟨rfl, rfl⟩

theorem rfree_no (w : World) (lo : Nat) (G : Geo) (m : Mx) (row : Int) (h : RxAt w lo G m) (hr : row < 0 ∨ (m.r : Int) ≤ row) :
    Calls Try.prog 39 #[.pointer (some ⟨G.x, 0, none⟩), .int .i64 row] w fun e w' => e = .returned (.slice none 0 0) ∧ w = w' := by
  have hc0 := h.c0
  by_cases hlow : row < 0
  · have d1 : ¬ (0 : Int) ≤ row := by omega
    clear hr h
    go_enter Try.func39, Try.ntmps39
    go_wp2_with fail
    go_ret
    exact ⟨rfl, rfl⟩
  · have d1 : (0 : Int) ≤ row := by omega
    have d2 : ¬ row < (m.r : Int) := by omega
    clear hr hlow h
    go_enter Try.func39, Try.ntmps39
    go_wp2_with fail
    go_ret
    exact ⟨rfl, rfl⟩

set_option maxRecDepth 100000 in
set_option maxHeartbeats 4000000 in
theorem rfree_any (w : World) (lo : Nat) (G : Geo) (m : Mx) (i : Nat) (h : RxAt w lo G m) (hi : i < m.r) :
    Calls Try.prog 39 #[.pointer (some ⟨G.x, 0, none⟩), .int .i64 i] w fun e w' => ∃ v, e = .returned v ∧ w'.ownsRow w.heap.size 3 1 v (m.free i).length ((m.free i).map iv) ∧ Below w.heap.size w w' := by
  have hc0 := h.c0
  have hrow := h.row i hi
  obtain ⟨hcp1, hcp2⟩ := h.cpn i hi
  have hr8 := h.r8
  have hn16 := h.n16
  have hri : (m.r : Int) ≤ 8 := by omega
  have hni : (m.n : Int) ≤ 16 := by omega
  have hccr := h.ccr
  have hccm := h.ccm
  have hii : (i : Int) < (m.r : Int) := by omega
  have hi0 : (0 : Int) ≤ (i : Int) := by omega
  have HX := hid h
  clear h
  go_enter Try.func39, Try.ntmps39
  go_wp2_with fail
  go_loopw [5, 31] (fun v q wr => ∃ k : Nat, k ≤ m.n ∧ q = .int .i64 k ∧ wr.ownsRow w.heap.size 3 1 v (m.freeTo i k).length ((m.freeTo i k).map iv) ∧ Below w.heap.size w wr) (fun _ q _ => m.n - (intOf q).toNat)
  case atStart => exact ⟨0, Nat.zero_le _, rfl, World.ownsRow_nil _ _ _ _, Below.refl _ _⟩
  case round =>
    obtain ⟨k, hk, rfl, hv, hB⟩ := hrel
    have HV := hid hv
    have HK := hid hB
    have hs0 := hB.size
    have hx2 := HX.out.below hB (Nat.le_refl _)
    have hol := freeTo_len m i k
    have HS := hid (freeTo_succ m i k)
    by_cases hkl : k < m.n
    · have hki : (k : Int) < (m.n : Int) := by omega
      have hcell := hx2.cell i k hi hkl
      have hup := hx2.up k hkl
      have hc1 := hx2.c1
      have hcur := hx2.cur
      have hcum := hx2.cum
      generalize hol' : (m.freeTo i k).length = ol at *
      have HOL := hid hol'
      clear hv hB hx2 hol'
      by_cases hz : m.c (16 * i + k) = 0
      · rw [hz] at hcell
        cases hd : m.d k with
        | false =>
          have HS2 := hid (show m.freeTo i (k + 1) = m.freeTo i k ++ [k] by rw [HS.out, if_pos ⟨hz, hd⟩])
          rw [hd] at hup
          have hof := hid (owns_below HV.out ((Below.refl _ _).alloc (Nat.le_refl _) (.cells #[.int .i64 (k : Nat)] 3)))
          have hsrc := hid (SrcC.lit wr #[.int .i64 (k : Nat)] 3 1 [iv k] rfl)
          clear hz hd
          go_wp2_with (at_builtin; (refine appsw (by rfl) 34 3 (.tmp 47) (.tmp 49) rfl w.heap.size 1 8 _ Try.underlying34 Try.infoInt rfl (by decide) _ _ ol 1 (ol + 1) _ _ rfl rfl hof.out hsrc.out rfl (by intro y hy; rw [List.mem_singleton] at hy; subst hy; rfl) rfl (by omega) (by omega) (by simp; omega) ?_); intro ad9 cp9 wA hoA hgA; have HOA := hid hoA; have HGA := hid hgA; clear hoA hgA)
          have hbA : Below w.heap.size w wA := (HK.out.alloc (by omega) (.cells #[.int .i64 (k : Nat)] 3)).grown HGA.out (by simp; omega) (fun g hg => (World.ownsRow.lt HV.out g hg).1)
          have HBA := hid hbA
          clear hbA
          go_wp2
          go_roundw
          case rel => exact ⟨k + 1, hkl, by go_num, by rw [HS2.out, List.length_append, HOL.out, List.map_append]; exact HOA.out, HBA.out⟩
          case measure => simp [intOf]; omega
        | true =>
          have HS2 := hid (show m.freeTo i (k + 1) = m.freeTo i k by rw [HS.out, if_neg (by rw [hd]; simp)])
          rw [hd] at hup
          clear hz hd
          go_wp2_with fail
          go_roundw
          case rel => exact ⟨k + 1, hkl, by go_num, by rw [HS2.out, HOL.out]; exact HV.out, HK.out⟩
          case measure => simp [intOf]; omega
      · have HS2 := hid (show m.freeTo i (k + 1) = m.freeTo i k by rw [HS.out, if_neg (fun h => hz h.1)])
        have hne1 : (((m.c (16 * i + k) : Nat) : Int) == 0) = false := by simp; omega
        generalize m.c (16 * i + k) = cv at *
        clear hz
        go_wp2_with fail
        go_roundw
        case rel => exact ⟨k + 1, hkl, by go_num, by rw [HS2.out, HOL.out]; exact HV.out, HK.out⟩
        case measure => simp [intOf]; omega
    · have e : k = m.n := by omega
      have HV2 := hid (show wr.ownsRow w.heap.size 3 1 _ (m.free i).length ((m.free i).map iv) from by have h1 := hv; rw [e, freeTo_all] at h1; exact h1)
      have hki : ¬ (k : Int) < (m.n : Int) := by omega
      clear e hkl hv hB hx2
      go_wp2_with fail
      go_ret
      exact ⟨_, rfl, HV2.out, HK.out⟩

end Go.Proofs.Ytdongghjchnpbaa
