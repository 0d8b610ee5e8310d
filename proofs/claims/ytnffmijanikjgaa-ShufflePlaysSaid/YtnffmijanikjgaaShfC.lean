/-
  Contracts of shuffle: lead, Used.
-/
import Derived.Test.YtnffmijanikjgaaShfB
namespace Go.Proofs.Ytnffmijanikjgaa
open Go.RowKit Go.Shelf
set_option linter.unusedVariables false

/-- One job, as far ahead as it goes. -/
def Mx.led (m : Mx) (f j : Nat) : Mx × List (Nat × Nat × Nat) := match m.ahead [j] f with
  | none => (m, [])
  | some t => (m.mv j f t, [(j, f, t)])

theorem rJob_led (f : Nat) (st : Mx × List (Nat × Nat × Nat)) (j : Nat) : rJob f st j = ((st.1.led f j).1, st.2 ++ (st.1.led f j).2) := by
  unfold rJob Mx.led
  cases st.1.ahead [j] f with
  | none => simp
  | some t => rfl

theorem led_len (m : Mx) (f j : Nat) : (m.led f j).2.length ≤ 1 := by
  unfold Mx.led
  cases m.ahead [j] f with
  | none => simp
  | some t => simp

theorem ahead_of {m : Mx} {J : List Nat} {f t : Nat} (h : t < f) (hg : m.goes t J = true) (hb : ∀ i, i < t → m.goes i J = false) : m.ahead J f = some t := by
  unfold Mx.ahead
  rw [List.find?_range_eq_some]
  exact ⟨hg, List.mem_range.2 h, fun i hi => by simp [hb i hi]⟩

theorem ahead_of_none {m : Mx} {J : List Nat} {f : Nat} (hb : ∀ i, i < f → m.goes i J = false) : m.ahead J f = none := by
  unfold Mx.ahead
  rw [List.find?_eq_none]
  intro i hi
  simp [hb i (List.mem_range.1 hi)]

set_option maxHeartbeats 4000000 in
theorem lead_any (w : World) (b f j : Nat) (m : Mx) (h : MxAt w b m) (ho : One m) (hf : f < m.r) (hj : j ∈ m.row f) :
    Calls Try.prog 59 #[.pointer (some ⟨b, 0, none⟩), .int .i64 f, .int .u32 (j : Nat)] w fun e w' => ∃ v, e = .returned v ∧ w'.ownsRow w.heap.size 76 3 v (m.led f j).2.length (mvcs (m.led f j).2) ∧ MxAt w' b (m.led f j).1 ∧ Keeps (fun i => i = b) w w' := by
  have HH := hid h
  have HB := hid h.lt
  have hr8 := h.r8
  have HO := hid ho
  have HJ := hid hj
  have hfi : (f : Int) < 8 := by omega
  have h1 : Below w.heap.size w (w.alloc (.cells #[.int .u32 (j : Nat)] 33)) := (Below.refl _ _).alloc (Nat.le_refl _) _
  have hrd : RdV (w.alloc (.cells #[.int .u32 (j : Nat)] 33)) (.slice (some ⟨w.heap.size, 0, none⟩) 1 1) ([j].map uv) := by
    refine .inr ⟨_, 0, 1, rfl, by simp, by omega, by simp, fun k x hk => ?_⟩
    rw [cell_of_row _ _ _ _ _ _ (heap_alloc_new w _)]
    simpa [uv] using hk
  have hs0 : (w.alloc (.cells #[.int .u32 (j : Nat)] 33)).heap.size = w.heap.size + 1 := by simp
  have HB1 := hid h1
  have HRD := hid hrd
  have HS0 := hid hs0
  clear h ho hj h1 hrd hs0
  go_enter Try.func59, Try.ntmps59
  go_wp2
  go_loopw [12] (fun i wr => ∃ c : Nat, c ≤ f ∧ i = .int .i64 c ∧ (∀ t, t < c → m.goes t [j] = false) ∧ Below (w.heap.size + 1) (w.alloc (.cells #[.int .u32 (j : Nat)] 33)) wr) (fun i _ => f - (intOf i).toNat)
  case atStart => exact ⟨0, Nat.zero_le _, rfl, (fun t ht => absurd ht (by omega)), Below.refl _ _⟩
  case round =>
    obtain ⟨c, hc, rfl, hg, hB⟩ := hrel
    have HG := hid hg
    have hs1 := hB.size
    have HK := hid hB
    have HM := hid ((HH.out.below HB1.out HB.out).below hB (by have := HB.out; omega))
    clear hg hB
    by_cases hlt : c < f
    · have hci : (c : Int) < (f : Int) := by omega
      have hcr : c < m.r := by omega
      go_wp2_with fail
      refine (goes_sh wr b c m _ [j] HM.out hcr (HRD.out.all (HK.out.mono (by rw [HS0.out]; exact Nat.le_refl _)))).mono ?_
      rintro e w2 ⟨rfl, hb2⟩
      have HB2 := hid hb2
      have hs2 := hb2.size
      have HM2 := hid (HM.out.below hb2 HM.out.lt)
      clear hb2
      cases hgo : m.goes c [j] with
      | false =>
        have HG2 := hid (show ∀ t, t < c + 1 → m.goes t [j] = false from fun t ht => by
          by_cases e : t = c
          · rw [e]; exact hgo
          · exact HG.out t (by omega))
        clear hgo
        go_wp2
        go_roundw
        case rel => exact ⟨c + 1, by omega, by go_num, HG2.out, HK.out.trans (HB2.out.mono (by have := HS0.out; omega))⟩
        case measure => simp [intOf]; omega
      | true =>
        have hcan := row_canGo HO.out hf hcr (by omega) hgo (fun x hx => by rw [List.mem_singleton] at hx; rw [hx]; exact HJ.out)
        have HCA := hid hcan
        have HL := hid (show m.led f j = (m.mv j f c, [(j, f, c)]) by unfold Mx.led; rw [ahead_of hlt hgo HG.out])
        clear hcan hgo
        go_wp2_with fail
        refine (shift_any w2 b f c m _ [j] HM2.out HO.out (by simp) HCA.out hcr (by simp) ((HRD.out.all (HK.out.mono (by rw [HS0.out]; exact Nat.le_refl _))).all HB2.out) (by rintro g o n q e; simp only [Value.slice.injEq, Option.some.injEq, Addr.mk.injEq] at e; have := HB.out; omega)).mono ?_
        rintro e w3 ⟨v3, rfl, hv3, hm3, hk3⟩
        have HV3 := hid hv3
        have HM3 := hid hm3
        have HK3 := hid hk3
        clear hv3 hm3 hk3
        go_wp2
        go_ret
        refine ⟨v3, rfl, ?_, ?_, ?_⟩
        · rw [HL.out]; exact owns_base HV3.out (by have := HS0.out; omega)
        · rw [HL.out]; exact HM3.out
        · have a1 : Below w.heap.size w w2 := HB1.out.trans ((HK.out.mono (by omega)).trans (HB2.out.mono (by have := HS0.out; omega)))
          exact (Keeps.of_below a1 (fun i h1 h2 => absurd h1 (by omega))).trans HK3.out
    · have e : c = f := by omega
      have HL := hid (show m.led f j = (m, []) by unfold Mx.led; rw [ahead_of_none (by rw [← e]; exact HG.out)])
      have hki : ¬ (c : Int) < (f : Int) := by omega
      clear e hlt
      go_wp2
      go_ret
      refine ⟨_, rfl, ?_, ?_, ?_⟩
      · rw [HL.out]; exact World.ownsRow_nil _ _ _ _
      · rw [HL.out]; exact HM.out
      · exact Keeps.of_below (HB1.out.trans (HK.out.mono (by omega))) (fun i h1 h2 => absurd h1 (by omega))

/-- How many rows have anybody. -/
def Mx.usedTo (m : Mx) (k : Nat) : Nat := ((List.range k).filter fun i => !(m.row i).isEmpty).length
def Mx.used (m : Mx) : Nat := m.usedTo m.r
theorem usedTo_succ (m : Mx) (k : Nat) : m.usedTo (k + 1) = m.usedTo k + if (m.row k).isEmpty then 0 else 1 := by
  unfold Mx.usedTo
  rw [List.range_succ, List.filter_append]
  cases h : (m.row k).isEmpty <;> simp [h]
theorem usedTo_le (m : Mx) (k : Nat) : m.usedTo k ≤ k := by
  unfold Mx.usedTo
  exact Nat.le_trans (List.length_filter_le _ _) (by simp)

theorem used_nil (w : World) :
    Calls Try.prog 32 #[.pointer none] w fun e w' => e = .returned (.int .i64 0) ∧ w = w' := by
  go_enter Try.func32, Try.ntmps32
  go_wp2_with fail
  refine (size_nil w).mono ?_
  rintro e w' ⟨rfl, rfl⟩
  go_wp2
  go_loop [5, 13] (fun v i => v = .int .i64 0 ∧ i = .int .i64 0) (fun _ _ => 0)
  case atStart => exact ⟨rfl, rfl⟩
  case round =>
    obtain ⟨rfl, rfl⟩ := hrel
    go_wp2
    go_ret
    exact ⟨rfl, rfl⟩

set_option maxHeartbeats 2000000 in
theorem used_any (w : World) (b : Nat) (m : Mx) (h : MxAt w b m) :
    Calls Try.prog 32 #[.pointer (some ⟨b, 0, none⟩)] w fun e w' => e = .returned (.int .i64 (m.used : Nat)) ∧ Below w.heap.size w w' := by
  have HH := hid h
  have HB := hid h.lt
  have hr8 := h.r8
  have hri : (m.r : Int) ≤ 8 := by omega
  clear h
  go_enter Try.func32, Try.ntmps32
  go_wp2_with fail
  refine (size_any w b m HH.out).mono ?_
  rintro e w1 ⟨rfl, nd, rfl⟩
  have HD := hid (show Below w.heap.size w (w.drewN nd) from ⟨rfl, rfl, rfl, Nat.le_refl _, fun _ _ => rfl⟩)
  go_wp2
  go_loopw [5, 13] (fun v i wr => ∃ k : Nat, k ≤ m.r ∧ i = .int .i64 k ∧ v = .int .i64 (m.usedTo k : Nat) ∧ Below w.heap.size w wr) (fun _ i _ => m.r - (intOf i).toNat)
  case atStart => exact ⟨0, Nat.zero_le _, rfl, rfl, HD.out⟩
  case round =>
    obtain ⟨k, hk, rfl, rfl, hB⟩ := hrel
    have HK := hid hB
    have hs0 := hB.size
    have HM := hid (HH.out.below hB HB.out)
    have hul := usedTo_le m k
    clear hB
    by_cases hlt : k < m.r
    · have hki : (k : Int) < (m.r : Int) := by omega
      have HU := hid (usedTo_succ m k)
      go_wp2_with fail
      refine (row_any wr b k m HM.out hlt).mono ?_
      rintro e w2 ⟨v2, rfl, hv2, hn2, hb2⟩
      have HB2 := hid hb2
      obtain ⟨ad, cp, rfl, hcl, hcm⟩ := (RdV.of_own hv2).len
      rw [List.length_map] at hcl
      clear hv2 hn2 hb2
      rw [List.length_map]
      cases hrow : m.row k with
      | nil =>
        have HU2 := hid (show m.usedTo (k + 1) = m.usedTo k by rw [HU.out, hrow]; rfl)
        clear hrow hcl
        generalize m.usedTo k = uk at *
        go_wp2
        go_roundw
        case rel => exact ⟨k + 1, hlt, by go_num, by rw [HU2.out], HK.out.trans (HB2.out.mono hs0)⟩
        case measure => simp [intOf]; omega
      | cons x xs =>
        have HU2 := hid (show m.usedTo (k + 1) = m.usedTo k + 1 by rw [HU.out, hrow]; rfl)
        have hl1 : ((x :: xs).length : Int) > 0 := by simp
        have hl2 : decide (((x :: xs).length : Int) > 0) = true := by simp
        generalize (x :: xs).length = q at *
        have hq0 : (0 : Int) < (q : Int) := hl1
        clear hrow hl1
        generalize m.usedTo k = uk at *
        go_wp2
        go_roundw
        case rel => exact ⟨k + 1, hlt, by go_num, by rw [HU2.out]; go_num, HK.out.trans (HB2.out.mono hs0)⟩
        case measure => simp [intOf]; omega
    · have e : k = m.r := by omega
      have HE := hid (show m.usedTo k = m.used by rw [e]; rfl)
      have hki : ¬ (k : Int) < (m.r : Int) := by omega
      clear e hlt
      go_wp2
      go_ret
      exact ⟨by rw [HE.out]; rfl, HK.out⟩

end Go.Proofs.Ytnffmijanikjgaa
