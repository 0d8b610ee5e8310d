/-
  The document's Same, SameInts; the document's example.
-/
import Derived.Test.YtdongghjchnpbaaRowW
namespace Go.Proofs.Ytdongghjchnpbaa
open Go.RowKit Go.Shelf
set_option linter.unusedVariables false

theorem RdV.drewN {w : World} {v : Value} {xs : List Value} (h : RdV w v xs) (n : Nat) : RdV (w.drewN n) v xs := h.all ⟨rfl, rfl, rfl, Nat.le_refl _, fun _ _ => rfl⟩

theorem RdV.drew {w : World} {v : Value} {xs : List Value} (h : RdV w v xs) : RdV w.drew v xs := h

/-- Its cell at an index. -/
theorem RdV.at {w : World} {a : Option Addr} {n cap : Nat} {xs : List Value} (h : RdV w (.slice a n cap) xs) (k : Nat) (x : Value) (hk : xs[k]? = some x) : n = xs.length ∧ ∃ b off, a = some ⟨b, off, none⟩ ∧ w.cell? ⟨b, off + k, none⟩ = some x := by
  rcases h with ⟨_, he⟩ | ⟨g, o, cap', e, h1, h2, h3, h4⟩
  · rw [he] at hk; simp at hk
  · simp only [Value.slice.injEq] at e
    obtain ⟨rfl, rfl, rfl⟩ := e
    exact ⟨rfl, g, o, rfl, h4 k x hk⟩

set_option maxHeartbeats 1000000 in
theorem sameints_any (w : World) (va vb : Value) (l r : List Nat) (ha : RdV w va (l.map iv)) (hb : RdV w vb (r.map iv)) :
    Calls Try.prog 16 #[va, vb] w fun e w' => e = .returned (.bool (decide (l = r))) ∧ Below w.heap.size w w' := by
  obtain ⟨aa, ca, rfl, hca, hma⟩ := ha.len
  obtain ⟨ab, cb, rfl, hcb, hmb⟩ := hb.len
  rw [List.length_map] at hca hcb
  have HA := hid ha
  have HB := hid hb
  clear ha hb
  rw [List.length_map, List.length_map]
  by_cases hlen : l.length = r.length
  · have hlm : l.length ≤ 9223372036854775807 := by omega
    have e0 : ((l.length : Int) == (r.length : Int)) = true := by simp; omega
    have e1 : ((l.length : Int) != (r.length : Int)) = false := by simp; omega
    have HL := hid hlen
    clear hlen
    go_enter Try.func16, Try.ntmps16
    go_wp2
    go_loopw [13] (fun i wr => ∃ k : Nat, k ≤ l.length ∧ i = .int .i64 k ∧ l.take k = r.take k ∧ Below w.heap.size w wr) (fun i _ => l.length - (intOf i).toNat)
    case atStart => exact ⟨0, Nat.zero_le _, rfl, by simp, Below.refl _ _⟩
    case round =>
      obtain ⟨k, hk, rfl, hw, hbl⟩ := hrel
      have HW := hid hw
      have HBL := hid hbl
      clear hw
      by_cases hlt : k < l.length
      · obtain ⟨x, hx⟩ : ∃ x, l[k]? = some x := ⟨_, List.getElem?_eq_getElem hlt⟩
        obtain ⟨y, hy⟩ : ∃ y, r[k]? = some y := ⟨_, List.getElem?_eq_getElem (by rw [← HL.out]; exact hlt)⟩
        obtain ⟨-, g1, o1, rfl, c1⟩ := (HA.out.all hbl).at k (iv x) (by simp [hx])
        obtain ⟨-, g2, o2, rfl, c2⟩ := (HB.out.all hbl).at k (iv y) (by simp [hy])
        have hki : (k : Int) < (l.length : Int) := by omega
        have hkr : (k : Int) < (r.length : Int) := by have := HL.out; omega
        have hkr2 : k < r.length := by have := HL.out; omega
        have HX := hid hx
        have HY := hid hy
        have c1' : wr.cell? ⟨g1, o1 + k, none⟩ = some (.int .i64 (x : Nat)) := c1
        have c2' : wr.cell? ⟨g2, o2 + k, none⟩ = some (.int .i64 (y : Nat)) := c2
        clear hx hy hbl c1 c2
        by_cases hxy : x = y
        · subst hxy
          have HT := hid (show l.take (k + 1) = r.take (k + 1) by rw [take_snoc' _ _ _ HX.out, take_snoc' _ _ _ HY.out, HW.out])
          go_wp2
          go_quiet (fail)
          go_wp2
          go_roundw
          case rel => exact ⟨k + 1, hlt, by go_num, HT.out, HBL.out.trans ⟨rfl, rfl, rfl, Nat.le_refl _, fun _ _ => rfl⟩⟩
          case measure => simp [intOf]; omega
        · have d1 : ((x : Int) == (y : Int)) = false := by simp; omega
          have d2 : ((x : Int) != (y : Int)) = true := by simp; omega
          have HF := hid (show decide (l = r) = false by
            rw [decide_eq_false_iff_not]
            intro e
            have h1 := HX.out
            rw [e, HY.out] at h1
            exact hxy (Option.some.inj h1).symm)
          clear hxy
          go_wp2
          go_quiet (fail)
          go_wp2
          go_ret
          exact ⟨by rw [HF.out]; rfl, HBL.out.trans ⟨rfl, rfl, rfl, Nat.le_refl _, fun _ _ => rfl⟩⟩
      · have e : k = l.length := by omega
        have HF := hid (show decide (l = r) = true by
          rw [decide_eq_true_iff]
          have h1 := HW.out
          rw [e, List.take_length] at h1
          have h2 : r.take l.length = r := by rw [HL.out]; exact List.take_length
          rw [h2] at h1
          exact h1)
        have hki : ¬ (k : Int) < (l.length : Int) := by omega
        clear hlt hbl e
        go_wp2
        go_ret
        exact ⟨by rw [HF.out]; rfl, HBL.out⟩
  · have e0 : ((l.length : Int) == (r.length : Int)) = false := by simp; omega
    have e1 : ((l.length : Int) != (r.length : Int)) = true := by simp; omega
    have HF := hid (show decide (l = r) = false by
      rw [decide_eq_false_iff_not]
      intro e
      exact hlen (by rw [e]))
    clear hlen
    go_enter Try.func16, Try.ntmps16
    go_wp2
    go_ret
    exact ⟨by rw [HF.out]; rfl, Below.refl _ _⟩

set_option maxHeartbeats 1000000 in
theorem same_any (w : World) (va vb : Value) (l r : List Nat) (ha : RdV w va (l.map uv)) (hb : RdV w vb (r.map uv)) :
    Calls Try.prog 30 #[va, vb] w fun e w' => e = .returned (.bool (decide (l = r))) ∧ Below w.heap.size w w' := by
  obtain ⟨aa, ca, rfl, hca, hma⟩ := ha.len
  obtain ⟨ab, cb, rfl, hcb, hmb⟩ := hb.len
  rw [List.length_map] at hca hcb
  have HA := hid ha
  have HB := hid hb
  clear ha hb
  rw [List.length_map, List.length_map]
  by_cases hlen : l.length = r.length
  · have hlm : l.length ≤ 9223372036854775807 := by omega
    have e0 : ((l.length : Int) == (r.length : Int)) = true := by simp; omega
    have e1 : ((l.length : Int) != (r.length : Int)) = false := by simp; omega
    have HL := hid hlen
    clear hlen
    go_enter Try.func30, Try.ntmps30
    go_wp2
    go_loopw [13] (fun i wr => ∃ k : Nat, k ≤ l.length ∧ i = .int .i64 k ∧ l.take k = r.take k ∧ Below w.heap.size w wr) (fun i _ => l.length - (intOf i).toNat)
    case atStart => exact ⟨0, Nat.zero_le _, rfl, by simp, Below.refl _ _⟩
    case round =>
      obtain ⟨k, hk, rfl, hw, hbl⟩ := hrel
      have HW := hid hw
      have HBL := hid hbl
      clear hw
      by_cases hlt : k < l.length
      · obtain ⟨x, hx⟩ : ∃ x, l[k]? = some x := ⟨_, List.getElem?_eq_getElem hlt⟩
        obtain ⟨y, hy⟩ : ∃ y, r[k]? = some y := ⟨_, List.getElem?_eq_getElem (by rw [← HL.out]; exact hlt)⟩
        obtain ⟨-, g1, o1, rfl, c1⟩ := (HA.out.all hbl).at k (uv x) (by simp [hx])
        obtain ⟨-, g2, o2, rfl, c2⟩ := (HB.out.all hbl).at k (uv y) (by simp [hy])
        have hki : (k : Int) < (l.length : Int) := by omega
        have hkr : (k : Int) < (r.length : Int) := by have := HL.out; omega
        have hkr2 : k < r.length := by have := HL.out; omega
        have HX := hid hx
        have HY := hid hy
        have c1' : wr.cell? ⟨g1, o1 + k, none⟩ = some (.int .u32 (x : Nat)) := c1
        have c2' : wr.cell? ⟨g2, o2 + k, none⟩ = some (.int .u32 (y : Nat)) := c2
        clear hx hy hbl c1 c2
        by_cases hxy : x = y
        · subst hxy
          have HT := hid (show l.take (k + 1) = r.take (k + 1) by rw [take_snoc' _ _ _ HX.out, take_snoc' _ _ _ HY.out, HW.out])
          go_wp2
          go_quiet (fail)
          go_wp2
          go_roundw
          case rel => exact ⟨k + 1, hlt, by go_num, HT.out, HBL.out.trans ⟨rfl, rfl, rfl, Nat.le_refl _, fun _ _ => rfl⟩⟩
          case measure => simp [intOf]; omega
        · have d1 : ((x : Int) == (y : Int)) = false := by simp; omega
          have d2 : ((x : Int) != (y : Int)) = true := by simp; omega
          have HF := hid (show decide (l = r) = false by
            rw [decide_eq_false_iff_not]
            intro e
            have h1 := HX.out
            rw [e, HY.out] at h1
            exact hxy (Option.some.inj h1).symm)
          clear hxy
          go_wp2
          go_quiet (fail)
          go_wp2
          go_ret
          exact ⟨by rw [HF.out]; rfl, HBL.out.trans ⟨rfl, rfl, rfl, Nat.le_refl _, fun _ _ => rfl⟩⟩
      · have e : k = l.length := by omega
        have HF := hid (show decide (l = r) = true by
          rw [decide_eq_true_iff]
          have h1 := HW.out
          rw [e, List.take_length] at h1
          have h2 : r.take l.length = r := by rw [HL.out]; exact List.take_length
          rw [h2] at h1
          exact h1)
        have hki : ¬ (k : Int) < (l.length : Int) := by omega
        clear hlt hbl e
        go_wp2
        go_ret
        exact ⟨by rw [HF.out]; rfl, HBL.out⟩
  · have e0 : ((l.length : Int) == (r.length : Int)) = false := by simp; omega
    have e1 : ((l.length : Int) != (r.length : Int)) = true := by simp; omega
    have HF := hid (show decide (l = r) = false by
      rw [decide_eq_false_iff_not]
      intro e
      exact hlen (by rw [e]))
    clear hlen
    go_enter Try.func30, Try.ntmps30
    go_wp2
    go_ret
    exact ⟨by rw [HF.out]; rfl, Below.refl _ _⟩

end Go.Proofs.Ytdongghjchnpbaa
