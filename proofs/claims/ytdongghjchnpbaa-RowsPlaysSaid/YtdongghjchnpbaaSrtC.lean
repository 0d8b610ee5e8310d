/-
  slices.Sort at []uint32: reverseRangeOrdered, order2Ordered, medianOrdered, medianAdjacentOrdered, choosePivotOrdered.
-/
import Derived.Test.YtdongghjchnpbaaSrtB
namespace Go.Proofs.Ytdongghjchnpbaa
open Go.RowKit
set_option linter.unusedVariables false

theorem reverseLoop_go (i j : Nat) (d : Array Nat) (h : i < j) : Sort.reverseLoop i j d = Sort.reverseLoop (i + 1) (j - 1) (Sort.swp d i j) := by
  rw [Sort.reverseLoop, if_pos h]
theorem reverseLoop_end (i j : Nat) (d : Array Nat) (h : ¬ i < j) : Sort.reverseLoop i j d = d := by
  rw [Sort.reverseLoop, if_neg h]

set_option maxHeartbeats 4000000 in
theorem reverse_any (w : World) (g off n cap : Nat) (pre tl : List Value) (d : Array Nat) (a b : Nat) (h : ArrAt w g off pre tl d) (hn : d.size ≤ n) (hb1 : 1 ≤ b) (hb : b ≤ d.size) (hm : n ≤ 4611686018427387904) :
    Calls Try.prog 89 #[.slice (some ⟨g, off, none⟩) n cap, .int .i64 a, .int .i64 b] w fun e w' => (∃ u, e = .returned u) ∧ Made w g off pre tl (Sort.reverseRange d a b) w' := by
  have HH := hid h
  obtain ⟨F, hF⟩ : ∃ F, F = Sort.reverseRange d a b := ⟨_, rfl⟩
  rw [← hF]
  have HF := hid (show F = Sort.reverseLoop a (b - 1) d from hF)
  obtain ⟨b0, hb0⟩ : ∃ b0, b = b0 + 1 := ⟨b - 1, by omega⟩
  have e0 : (b : Int) - 1 = (b0 : Int) := by omega
  rw [show b - 1 = b0 by omega] at HF
  have HB0 := hid hb0
  clear h hF hb0
  go_enter Try.func89, Try.ntmps89
  go_wp2
  go_loopw [6, 7] (fun iv jv wr => ∃ (i j : Nat) (d1 : Array Nat), j < d.size ∧ iv = .int .i64 i ∧ jv = .int .i64 j ∧ d1.size = d.size ∧ Sort.reverseLoop i j d1 = F ∧ Made w g off pre tl d1 wr) (fun iv jv _ => (intOf jv).toNat - (intOf iv).toNat)
  case atStart => exact ⟨a, b0, d, by have := HB0.out; omega, rfl, rfl, rfl, HF.out.symm, Made.refl HH.out⟩
  case round =>
    obtain ⟨i, j, d1, hj, rfl, rfl, hsz, hF, hM⟩ := hrel
    have HSZ := hid hsz
    have HFF := hid hF
    have HM := hid hM
    by_cases hlt : i < j
    · obtain ⟨j0, hj0⟩ : ∃ j0, j = j0 + 1 := ⟨j - 1, by omega⟩
      have hiz : i < d1.size := by omega
      have hjz : j < d1.size := by omega
      have c1 := hM.arr.cell i hiz
      have c2 := hM.arr.cell j hjz
      have f1 := hM.arr.frozen (off + i)
      have f2 := hM.arr.frozen (off + j)
      have e1 : (j : Int) - 1 = (j0 : Int) := by omega
      have hki : (i : Int) < (j : Int) := by omega
      have b1 : (i : Int) < (n : Int) := by omega
      have b2 : (j : Int) < (n : Int) := by omega
      have b3 : i < n := by omega
      have b4 : j < n := by omega
      have HJ0 := hid hj0
      clear hsz hF hM hj0
      generalize hx : d1[i]! = x at *
      generalize hy : d1[j]! = y at *
      have HX := hid hx
      have HY := hid hy
      clear hx hy
      go_wp2_with fail
      go_region
      have HM4 := hid ((HM.out.swap i j hiz hjz).drew1)
      rw [HX.out, HY.out] at HM4
      have HF3 := hid (show Sort.reverseLoop (i + 1) j0 (Sort.swp d1 i j) = F by
        rw [← HFF.out, reverseLoop_go _ _ _ hlt, show j - 1 = j0 by have := HJ0.out; omega])
      have HS4 := hid (show (Sort.swp d1 i j).size = d.size by rw [swp_size, HSZ.out])
      go_wp2
      go_roundw
      case rel => exact ⟨i + 1, j0, Sort.swp d1 i j, by have := HJ0.out; omega, by go_num, rfl, HS4.out, HF3.out, HM4.out⟩
      case measure => have := HJ0.out; simp [intOf]; omega
    · have hki : ¬ (i : Int) < (j : Int) := by omega
      have HFE := hid (show d1 = F by rw [← HFF.out, reverseLoop_end _ _ _ hlt])
      clear hlt hsz hF hM
      go_wp2
      go_end0
      exact ⟨⟨_, rfl⟩, by rw [← HFE.out]; exact HM.out⟩

/-- The count of exchanges lies in a block of its own. -/
structure CntAt (w : World) (s : Nat) (c : Nat) (w' : World) : Prop where
  box : w'.heap[s]? = some (.cells #[.int .i64 c] 3 (0, 0))
  keeps : Keeps (fun k => k = s) w w'

theorem cnt_cell {w : World} {s : Nat} {v : Value} {t : TypeId} (h : w.heap[s]? = some (.cells #[v] t (0, 0))) : w.cell? ⟨s, 0, none⟩ = some v ∧ w.frozen? ⟨s, 0, none⟩ = false := by
  refine ⟨?_, frozen_of_row _ _ _ _ _ h⟩
  rw [cell_of_row _ _ _ _ _ _ h]; rfl

theorem cnt_set {w : World} {s : Nat} {v u : Value} {t : TypeId} (h : w.heap[s]? = some (.cells #[v] t (0, 0))) : (w.setCell ⟨s, 0, none⟩ u).heap[s]? = some (.cells #[u] t (0, 0)) := by
  have := heap_setCell_at w s 0 [v] t (0, 0) u h
  exact this

theorem CntAt.trans {w w1 w2 : World} {s c c2 : Nat} (h : CntAt w s c w1) (k : CntAt w1 s c2 w2) : CntAt w s c2 w2 := ⟨k.box, h.keeps.trans k.keeps⟩

set_option maxHeartbeats 2000000 in
theorem order2_any (w : World) (g off n cap s c : Nat) (pre tl : List Value) (d : Array Nat) (a b : Nat) (h : ArrAt w g off pre tl d) (hn : d.size ≤ n) (ha : a < d.size) (hb : b < d.size) (hm : n ≤ 4611686018427387904) (hc : c < 1000)
    (hs : w.heap[s]? = some (.cells #[.int .i64 c] 3 (0, 0))) :
    Calls Try.prog 112 #[.slice (some ⟨g, off, none⟩) n cap, .int .i64 a, .int .i64 b, .pointer (some ⟨s, 0, none⟩)] w fun e w' => e = .returned (.tuple #[.int .i64 (Sort.order2 ltN d a b c).1, .int .i64 (Sort.order2 ltN d a b c).2.1]) ∧ CntAt w s (Sort.order2 ltN d a b c).2.2 w' := by
  have c1 := h.cell a ha
  have c2 := h.cell b hb
  have b1 : (a : Int) < (n : Int) := by omega
  have b2 : (b : Int) < (n : Int) := by omega
  have b3 : a < n := by omega
  have b4 : b < n := by omega
  obtain ⟨k1, k2⟩ := cnt_cell hs
  have HS := hid hs
  have hci : (c : Int) < 1000 := by omega
  have HO := hid (show Sort.order2 ltN d a b c = if ltN d[b]! d[a]! then (b, a, c + 1) else (a, b, c) from rfl)
  generalize d[b]! = x at *
  generalize d[a]! = y at *
  generalize Sort.order2 ltN d a b c = R at *
  clear h hs hc
  go_enter Try.func112, Try.ntmps112
  go_wp2_with fail
  go_quiet ((go_at_call 91; exact Calls.quiet_of_same (less_any _ x y)))
  have kw : Keeps (fun k => k = s) w (w.drewN nq) := ⟨rfl, rfl, rfl, Nat.le_refl _, fun _ _ _ => rfl⟩
  have HKW := hid kw
  have HS2 := hid (show (w.drewN nq).heap[s]? = _ from HS.out)
  have k1' : (w.drewN nq).cell? ⟨s, 0, none⟩ = _ := k1
  have k2' : (w.drewN nq).frozen? ⟨s, 0, none⟩ = _ := k2
  clear kw k1 k2 c1 c2
  generalize w.drewN nq = ws at *
  cases hl : ltN x y with
  | true =>
    have HR := hid (show R = (b, a, c + 1) by rw [HO.out, hl]; rfl)
    clear hl
    go_wp2
    go_ret2
    rw [HR.out]
    exact ⟨by go_num, ⟨by simpa using cnt_set HS2.out, HKW.out.setCell (fun _ => rfl) _⟩⟩
  | false =>
    have HR := hid (show R = (a, b, c) by rw [HO.out, hl]; rfl)
    clear hl
    go_wp2
    go_ret2
    rw [HR.out]
    exact ⟨by go_num, ⟨HS2.out, HKW.out⟩⟩

end Go.Proofs.Ytdongghjchnpbaa
