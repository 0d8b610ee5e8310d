/-
  Contract: Jobs.
-/
import Derived.Test.YtdongghjchnpbaaSrtJ
import Derived.Test.YtdongghjchnpbaaRowW
namespace Go.Proofs.Ytdongghjchnpbaa
open Go.RowKit Go.Shelf
set_option linter.unusedVariables false
attribute [local go_sem] Oper.semAt_some

/-- The jobs of the first k rows, row by row. -/
def Mx.upTo (m : Mx) (k : Nat) : List Nat := (List.range k).flatMap m.row
theorem Mx.upTo_zero (m : Mx) : m.upTo 0 = [] := rfl
theorem Mx.upTo_succ (m : Mx) (k : Nat) : m.upTo (k + 1) = m.upTo k ++ m.row k := by simp [Mx.upTo, List.range_succ]
theorem Mx.upTo_len (m : Mx) (k : Nat) : (m.upTo k).length ≤ k * m.n := by
  induction k with
  | zero => simp [Mx.upTo]
  | succ k ih => rw [Mx.upTo_succ, List.length_append, Nat.succ_mul]; have := m.row_len k; omega
/-- All jobs that stand, rising. -/
def Mx.jobs (m : Mx) : List Nat := rising (m.upTo m.r)

set_option maxHeartbeats 4000000 in
theorem jobs_any (w : World) (b : Nat) (m : Mx) (h : MxAt w b m) :
    Calls Try.prog 45 #[.pointer (some ⟨b, 0, none⟩)] w fun e w' => ∃ v, e = .returned v ∧ w'.ownsRow w.heap.size 33 1 v m.jobs.length (m.jobs.map uv) ∧ Below w.heap.size w w' := by
  have hr8 := h.r8
  have hn16 := h.n16
  have c1 := h.cr
  have HH := hid h
  have HB := hid h.lt
  clear h
  go_enter Try.func45, Try.ntmps45
  go_wp2_with fail
  go_loopw [3, 11] (fun s3 i wr => ∃ k : Nat, k ≤ m.r ∧ i = .int .i64 k ∧ wr.ownsRow w.heap.size 33 1 s3 (m.upTo k).length ((m.upTo k).map uv) ∧ Below w.heap.size w wr) (fun _ i _ => m.r - (intOf i).toNat)
  case atStart => exact ⟨0, Nat.zero_le _, rfl, World.ownsRow_nil _ _ _ _, Below.refl _ _⟩
  case round =>
    obtain ⟨k, hk, rfl, ho, hb⟩ := hrel
    have HO := hid ho
    have HW := hid hb
    have hul := m.upTo_len k
    have hul2 : (m.upTo k).length ≤ 128 := Nat.le_trans hul (Nat.le_trans (Nat.mul_le_mul (show k ≤ 8 by omega) hn16) (by omega))
    clear ho hb hul
    by_cases hlt : k < m.r
    · have hki : (k : Int) < (m.r : Int) := by omega
      go_wp2_with fail
      refine (row_any _ b k m (HH.out.below HW.out HB.out) hlt).mono ?_
      rintro e w1 ⟨v, rfl, hv, -, hb1⟩
      have HV := hid hv
      have HO1 := hid (owns_below HO.out hb1)
      have hsz1 := hb1.size
      have hsz0 := HW.out.size
      have HW1 := hid (HW.out.trans (hb1.mono hsz0))
      clear hv hb1
      have hrl := m.row_len k
      obtain ⟨N, hN⟩ : ∃ N, N = (m.upTo (k + 1)).length := ⟨_, rfl⟩
      have hN2 : N = (m.upTo k).length + (m.row k).length := by rw [hN, Mx.upTo_succ, List.length_append]
      go_wp2_with (at_builtin; (refine appsw (by rfl) 60 33 (.tmp 14) (.tmp 17) rfl w.heap.size 1 4 _ Try.underlying60 Try.infoU32 rfl (by decide) _ _ (m.upTo k).length (m.row k).length N _ _ rfl rfl HO1.out (SrcC.of_own HV.out) (by simp) (by intro y hy; obtain ⟨_, _, rfl⟩ := List.mem_map.1 hy; rfl) hN2 (by omega) (by omega) (by omega) ?_); intro ad9 cp9 wA hoA hgA; have HOA := hid hoA; have HGA := hid hgA; clear hoA hgA)
      go_roundw
      case rel =>
        refine ⟨k + 1, hlt, by go_num, ?_, ?_⟩
        · rw [← hN, Mx.upTo_succ, List.map_append]; exact HOA.out
        · exact HW1.out.trans ((Keeps.of_grown HGA.out).below (by omega) (fun i hi => (World.ownsRow.lt HO1.out i hi).1))
      case measure => simp [intOf]; omega
    · have hki : ¬ (k : Int) < (m.r : Int) := by omega
      have hkr : k = m.r := by omega
      subst hkr
      go_wp2_with fail
      refine (sort_any _ w.heap.size _ (m.upTo m.r) HO.out (by omega)).mono ?_
      rintro e w1 ⟨⟨u, rfl⟩, ho, hk1⟩
      have HO2 := hid ho
      have HK := hid hk1
      clear ho hk1
      go_wp2_with fail
      go_ret
      refine ⟨_, rfl, ?_, ?_⟩
      · rw [show m.jobs.length = (m.upTo m.r).length from rising_len _]; exact HO2.out
      · exact HW.out.trans (HK.out.below (by have := HW.out.size; omega) (fun i hi => (World.ownsRow.lt HO.out i hi).1))

end Go.Proofs.Ytdongghjchnpbaa
