/-
  inTurn, right, change.
-/
import Derived.Test.YtahiaifdfgkemaaJbS
import Derived.Test.YtahiaifdfgkemaaNoteY
namespace Go.Proofs.Ytahiaifdfgkemaa
open Go.RowKit
set_option linter.unusedVariables false
set_option linter.unusedSimpArgs false

def turn (s l : Nat) : Int := if s = 0 then 1 else if s < l then 12 else if 1 < s - l then 11 else 0

set_option maxRecDepth 100000 in
set_option maxHeartbeats 1000000 in
theorem inturn_any (w : World) (s l : Nat) (hs : s < 4294967296) :
    Calls Try.prog 21 #[.int .u32 (s : Int), .int .u32 (l : Int)] w fun e w' => e = .returned (.int .i64 (turn s l)) ∧ w = w' := by
  by_cases h0 : s = 0
  · have d0 : ((s : Int) == 0) = true := by rw [beq_iff_eq]; omega
    have HE := hid (show turn s l = 1 by unfold turn; rw [if_pos h0])
    clear h0 hs
    go_enter Try.func21, Try.ntmps21
    go_wp2
    go_ret
    exact ⟨by rw [HE.out]; rfl, rfl⟩
  · have d0 : ((s : Int) == 0) = false := by rw [beq_eq_false_iff_ne]; omega
    by_cases h1 : s < l
    · have d1 : decide (s < l) = true := decide_eq_true h1
      have HE := hid (show turn s l = 12 by unfold turn; rw [if_neg h0, if_pos h1])
      clear h0 hs h1
      go_enter Try.func21, Try.ntmps21
      go_wp2
      go_ret
      exact ⟨by rw [HE.out]; rfl, rfl⟩
    · have d1 : decide (s < l) = false := decide_eq_false h1
      have hwr : IntKind.u32.wrap ((s : Int) - (l : Int)) = (s : Int) - (l : Int) := by rw [IntKind.wrap_u32]; omega
      by_cases h2 : 1 < s - l
      · have d2 : decide ((s : Int) - (l : Int) > 1) = true := decide_eq_true (by omega)
        have d2' : decide (1 < (s : Int) - (l : Int)) = true := decide_eq_true (by omega)
        have HE := hid (show turn s l = 11 by unfold turn; rw [if_neg h0, if_neg h1, if_pos h2])
        clear h0 hs h1 h2
        go_enter Try.func21, Try.ntmps21
        go_wp2
        go_ret
        exact ⟨by rw [HE.out]; rfl, rfl⟩
      · have d2 : decide ((s : Int) - (l : Int) > 1) = false := decide_eq_false (by omega)
        have d2' : decide (1 < (s : Int) - (l : Int)) = false := decide_eq_false (by omega)
        have HE := hid (show turn s l = 0 by unfold turn; rw [if_neg h0, if_neg h1, if_neg h2])
        clear h0 hs h1 h2
        go_enter Try.func21, Try.ntmps21
        go_wp2
        go_ret
        exact ⟨by rw [HE.out]; rfl, rfl⟩

set_option maxRecDepth 100000 in
set_option maxHeartbeats 2000000 in
theorem right_any (w : World) (b : Nat) (q : Note.Q) (hq : q.wf) :
    Calls Try.prog 19 #[.pointer (some ⟨b, 0, none⟩), .agg #[.int .u8 (q.cl : Int), .int .u32 (q.s : Int), .int .u8 (q.k : Int), .int .u8 (q.t : Int), .int .i64 q.kk, .int .i64 q.w, .int .u32 (q.j : Int)]] w fun e w' => e = .returned (.int .i64 (if q.right = true then 0 else 4)) ∧ Below w.heap.size w w' := by
  obtain ⟨w1, hw1⟩ : ∃ w1, w1 = w.alloc (.cells #[.int .u8 (q.cl : Int), .int .u32 (q.s : Int), .int .u8 (q.k : Int), .int .u8 (q.t : Int), .int .i64 q.kk, .int .i64 q.w, .int .u32 (q.j : Int)] 33) := ⟨_, rfl⟩
  have hb1 : Below w.heap.size w w1 := by rw [hw1]; exact (Below.refl _ _).alloc (Nat.le_refl _) _
  have HB1 := hid hb1
  have HQ := hid hq
  clear hb1 hq
  rcases hr : q.right with _ | _
  · have HR := hid hr
    clear hr
    go_enter Try.func19, Try.ntmps19
    go_wp2_with fail
    rw [← hw1]
    clear hw1
    refine (request_no q w1 HR.out).mono ?_
    rintro e w2 ⟨rfl, hb2⟩
    have HB2 := hid (HB1.out.trans (hb2.mono HB1.out.size))
    clear hb2
    go_wp2_with fail
    go_ret
    exact ⟨rfl, HB2.out⟩
  · have HR := hid hr
    clear hr
    go_enter Try.func19, Try.ntmps19
    go_wp2_with fail
    rw [← hw1]
    clear hw1
    refine (request_yes q w1 HQ.out HR.out).mono ?_
    rintro e w2 ⟨kv, rfl, -, hb2⟩
    have HB2 := hid (HB1.out.trans (hb2.mono HB1.out.size))
    clear hb2
    go_wp2_with fail
    go_ret
    exact ⟨rfl, HB2.out⟩

def Tb.change (t : Tb) (q : Note.Q) : (Nat × Int) × Tb := if q.k = 1 then t.submit q else t.cancel q.j

set_option maxRecDepth 100000 in
set_option maxHeartbeats 2000000 in
theorem change_any (w : World) (lo b : Nat) (va vo : Value) (t : Tb) (q : Note.Q) (h : TbAt w lo b va vo t) (hv : t.over.length ≤ 64) (hl : t.last < 100000) (hlo : lo ≤ w.heap.size) :
    Calls Try.prog 22 #[.pointer (some ⟨b, 0, none⟩), .agg #[.int .u8 (q.cl : Int), .int .u32 (q.s : Int), .int .u8 (q.k : Int), .int .u8 (q.t : Int), .int .i64 q.kk, .int .i64 q.w, .int .u32 (q.j : Int)]] w fun e w' => e = .returned (.tuple #[.int .u32 ((t.change q).1.1 : Int), .int .i64 (t.change q).1.2]) ∧ ∃ va' vo', Stp w lo b va vo w' va' vo' (t.change q).2 := by
  obtain ⟨w1, hw1⟩ : ∃ w1, w1 = w.alloc (.cells #[.int .u8 (q.cl : Int), .int .u32 (q.s : Int), .int .u8 (q.k : Int), .int .u8 (q.t : Int), .int .i64 q.kk, .int .i64 q.w, .int .u32 (q.j : Int)] 33) := ⟨_, rfl⟩
  have hb1 : Below w.heap.size w w1 := by rw [hw1]; exact (Below.refl _ _).alloc (Nat.le_refl _) _
  have HB1 := hid hb1
  have H0 := hid h
  have HLO := hid hlo
  clear hb1
  by_cases hk : q.k = 1
  · have HE := hid (show t.change q = t.submit q by unfold Tb.change; rw [if_pos hk])
    have HS := hid (submit_any w1 lo b va vo t q (h.below HB1.out) hl (by have := HB1.out.size; omega))
    have dk : ((q.k : Int) == 1) = true := by rw [beq_iff_eq]; omega
    clear hk hv hl hlo h
    go_enter Try.func22, Try.ntmps22
    go_wp2_with fail
    rw [← hw1]
    clear hw1
    refine HS.out.mono ?_
    rintro e w2 ⟨rfl, va', vo', hs⟩
    have HS2 := hid (hs.behind H0.out HB1.out)
    clear hs
    go_wp2_with fail
    go_ret2
    exact ⟨by rw [HE.out]; rfl, va', vo', by rw [HE.out]; exact HS2.out⟩
  · have HE := hid (show t.change q = t.cancel q.j by unfold Tb.change; rw [if_neg hk])
    have HS := hid (cancel_any w1 lo b q.j va vo t (h.below HB1.out) hv (by have := HB1.out.size; omega))
    have dk : ((q.k : Int) == 1) = false := by rw [beq_eq_false_iff_ne]; omega
    clear hk hv hl hlo h
    go_enter Try.func22, Try.ntmps22
    go_wp2_with fail
    rw [← hw1]
    clear hw1
    refine HS.out.mono ?_
    rintro e w2 ⟨rfl, va', vo', hs⟩
    have HS2 := hid (hs.behind H0.out HB1.out)
    clear hs
    go_wp2_with fail
    go_ret2
    exact ⟨by rw [HE.out]; rfl, va', vo', by rw [HE.out]; exact HS2.out⟩

end Go.Proofs.Ytahiaifdfgkemaa
