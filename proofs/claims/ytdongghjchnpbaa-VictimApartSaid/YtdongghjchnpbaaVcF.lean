/-
  Victim: leaving, Of, Choose.
-/
import Derived.Test.YtdongghjchnpbaaVcE
namespace Go.Proofs.Ytdongghjchnpbaa
open Go.RowKit Go.Shelf
set_option linter.unusedVariables false
set_option linter.unusedSimpArgs false

theorem w64a (a b : Nat) (h : a + b < 9223372036854775807) : Go.RowKit.wrap64 ((a : Int) + (b : Int)) = ((a + b : Nat) : Int) := by unfold Go.RowKit.wrap64; omega

theorem meas_dec {n i : Nat} (h : i < n) : n - (i + 1) < n - i := by omega

theorem cnt_le (m : Mx) (j : Nat) (hn : m.n ≤ 16) : m.cnt j ≤ 16 := by
  unfold Mx.cnt
  split
  · exact Nat.le_trans (List.length_filter_le _ _) (Nat.le_trans (m.at_len _) hn)
  · omega
theorem sumC_le (m : Mx) (hn : m.n ≤ 16) : ∀ q : List Cd, m.sumC q ≤ q.length * 16
  | [] => by simp [Mx.sumC]
  | c :: q => by
    rw [Mx.sumC_cons, List.length_cons]
    have := cnt_le m c.1 hn
    have := sumC_le m hn q
    omega

theorem who_bounds {m : Mx} {row : Nat} {l : List Cd} {tier : Nat} (hb : ∀ x ∈ l, x.1 < 4294967296 ∧ x.2 < 256) : ∀ x ∈ m.who row l tier, x.1 < 4294967296 ∧ x.2 < 256 := by
  intro x hx
  have h1 : x ∈ m.lows row l tier := (sortC_perm _).mem_iff.1 hx
  unfold Mx.lows at h1
  obtain ⟨j, _, h2⟩ := List.mem_filterMap.1 h1
  exact hb x (lowC_some h2).1

/-- What leaving tells. -/
def LeaveIs (w : World) (o : Option (List Cd)) (e : Ending) (w' : World) : Prop :=
  Below w.heap.size w w' ∧ match o with
  | none => e = .returned (.tuple #[.slice none 0 0, .bool false])
  | some q => ∃ v, e = .returned (.tuple #[v, .bool true]) ∧ RdC w' v q

theorem leaving_low (w : World) (b : Nat) (row : Int) (vl : Value) (tier : Nat) (k : Int) (hk : k < 1) :
    Calls Try.prog 53 #[.pointer (some ⟨b, 0, none⟩), .int .i64 row, vl, .int .u8 (tier : Nat), .int .i64 k] w fun e w' => e = .returned (.tuple #[.slice none 0 0, .bool false]) ∧ w = w' := by
  go_enter Try.func53, Try.ntmps53
  go_wp2_with fail
  go_ret2
  exact ⟨rfl, rfl⟩

set_option maxRecDepth 100000 in
set_option maxHeartbeats 4000000 in
theorem leaving_any (w : World) (b row : Nat) (m : Mx) (vl : Value) (l : List Cd) (tier : Nat) (k : Int) (h : MxAt w b m) (hrow : row < m.r) (hl : RdC w vl l) (hll : l.length ≤ 1000) (ht : tier < 256) (hlb : ∀ x ∈ l, x.1 < 4294967296 ∧ x.2 < 256) :
    Calls Try.prog 53 #[.pointer (some ⟨b, 0, none⟩), .int .i64 row, vl, .int .u8 (tier : Nat), .int .i64 k] w (LeaveIs w (m.leave row l tier k)) := by
  by_cases hk1 : k < 1
  · refine (leaving_low w b row vl tier k hk1).mono ?_
    rintro e w' ⟨rfl, rfl⟩
    unfold LeaveIs Mx.leave
    rw [if_pos hk1]
    exact ⟨Below.refl _ _, rfl⟩
  · have HE : m.leave row l tier k = m.lv k (m.free row).length (m.who row l tier) := by unfold Mx.leave; rw [if_neg hk1]
    rw [HE]
    clear HE
    have HFR := hid (free_any w b row m h hrow)
    have HBL := hid (fun w' (hb : Below w.heap.size w w') => belowC_any w' b row m vl l tier (h.below hb h.lt) hrow (hl.below hb) hll ht)
    have hfl : (m.free row).length ≤ 16 := Nat.le_trans (m.at_len _) h.n16
    have hwl : (m.who row l tier).length ≤ 16 := Nat.le_trans (m.who_len _ _ _) h.n16
    have HWB := hid (who_bounds (m := m) (row := row) (tier := tier) hlb)
    have HH := hid h
    have HBT := hid h.lt
    have HSU := hid (fun q => sumC_le m h.n16 q)
    have HCN := hid (fun j => cnt_le m j h.n16)
    generalize hF : (m.free row).length = F at *
    generalize hW : m.who row l tier = W at *
    have hki : (1 : Int) ≤ k := by omega
    have hki2 : ¬ k < 1 := hk1
    clear h hl hll hlb hk1 hF hW
    go_enter Try.func53, Try.ntmps53
    go_wp2_with fail
    refine HFR.out.mono ?_
    rintro e w1 ⟨rfl, hb1⟩
    have HB1 := hid hb1
    have HBL1 := hid (HBL.out w1 hb1)
    clear hb1
    go_wp2_with fail
    refine HBL1.out.mono ?_
    rintro e w2 ⟨v, rfl, hv, hb2⟩
    have hr2 := RdC.of_own hv HWB.out
    obtain ⟨a, c, rfl, hc1, hc2⟩ := hr2.len
    have HR := hid hr2
    have HB2 := hid (HB1.out.trans (hb2.mono HB1.out.size))
    obtain ⟨n, hn⟩ : ∃ n, n = W.length := ⟨_, rfl⟩
    rw [← hn] at hwl hc1 HR ⊢
    have HN := hid hn
    have HM2 := hid (HH.out.below HB2.out HBT.out)
    clear hv hr2 hb2 hn
    go_wp2_with fail
    go_loopw [12, 14] (fun rv nv wr => ∃ i : Nat, nv = .int .i64 i ∧ i ≤ n ∧ rv = .int .i64 ((F + m.sumC (W.take i) : Nat) : Int) ∧ (∀ i', i' < i → ((F + m.sumC (W.take i') : Nat) : Int) < k) ∧ Below w2.heap.size w2 wr) (fun _ nv _ => n - (intOf nv).toNat)
    case atStart => exact ⟨0, rfl, Nat.zero_le _, by simp [Mx.sumC], fun i' h => absurd h (Nat.not_lt_zero _), Below.refl _ _⟩
    case round =>
      obtain ⟨i, rfl, hi, rfl, hall, hb⟩ := hrel
      have HB := hid hb
      have HA := hid hall
      have HRW := hid (HR.out.below hb)
      have HBW := hid (HB2.out.trans (hb.mono HB2.out.size))
      have hsu : m.sumC (W.take i) ≤ 256 := by
        have := HSU.out (W.take i)
        rw [List.length_take] at this
        omega
      generalize hs : m.sumC (W.take i) = s at *
      have HS := hid hs
      have HFS := hid (show F + s < 100000 by omega)
      obtain ⟨fs, hfs⟩ : ∃ z, z = F + s := ⟨_, rfl⟩
      rw [← hfs] at HFS ⊢
      have hfsn := HFS.out
      have HFQ := hid hfs
      clear hb hall hs hfs
      by_cases hlt : (fs : Int) < k
      · by_cases hin : i < n
        · have hini : (i : Int) < (n : Int) := by omega
          obtain ⟨x, hx⟩ : ∃ x, W[i]? = some x := ⟨_, List.getElem?_eq_getElem (by have := HN.out; omega)⟩
          obtain ⟨b1, b2, g, off, rfl, hg, z0, z1⟩ := HRW.out.at hx
          have HX := hid (take_snoc' _ _ _ hx)
          have HC := hid (cells_any wr b m x.1 (HM2.out.below HB.out (show b < w2.heap.size from Nat.lt_of_lt_of_le HBT.out HB2.out.size)))
          have hcn := HCN.out x.1
          generalize hcx : m.cnt x.1 = cx at *
          have HCX := hid hcx
          have hw1 := w64a fs cx (by omega)
          have hw2 := w64t i (by omega)
          have HLT := hid hlt
          clear hx z1 hcx
          go_wp2_with fail
          refine HC.out.mono ?_
          rintro e w3 ⟨rfl, hb3⟩
          have HB3 := hid (HB.out.trans (hb3.mono HB.out.size))
          clear hb3
          go_wp2_with fail
          have HW1 := hid hw1
          have HW2 := hid hw2
          clear b1 b2 hcn hfsn hsu hw1 hw2 hlt
          try rw [HW2.out]
          try rw [HW1.out]
          go_roundw
          case rel => exact ⟨i + 1, rfl, Nat.succ_le_of_lt hin, by rw [HX.out, Mx.sumC_snoc, HS.out, HCX.out, ← Nat.add_assoc, ← HFQ.out], fun i' h' => by
            by_cases e : i' = i
            · subst e; rw [HS.out, ← HFQ.out]; exact HLT.out
            · exact HA.out i' (Nat.lt_of_le_of_ne (Nat.le_of_lt_succ h') e), HB3.out⟩
          case measure => simp [intOf]; first | exact meas_dec hin | exact hin
        · have hini : ¬ (i : Int) < (n : Int) := by omega
          have HQ := hid (show m.lv k F W = none from Mx.lv_of_none fun i' h' => by
            by_cases e : i' < i
            · exact HA.out i' e
            · have e2 : i' = i := by have := HN.out; omega
              subst e2; rw [HS.out, ← HFQ.out]; exact hlt)
          clear hin
          go_wp2_with fail
          go_ret2
          unfold LeaveIs
          rw [HQ.out]
          exact ⟨HBW.out, rfl⟩
      · have HQ := hid (show m.lv k F W = some (W.take i) from Mx.lv_of (by have := HN.out; omega) (by rw [HS.out, ← HFQ.out]; omega) HA.out)
        have HT := hid (HRW.out.take i (by have := HN.out; omega))
        have hic : i ≤ c := by omega
        have hlt2 : ¬ (fs : Int) < k := hlt
        have hlt3 : k ≤ (fs : Int) := by omega
        go_wp2_with fail
        go_ret2
        unfold LeaveIs
        rw [HQ.out]
        exact ⟨HBW.out, _, rfl, HT.out⟩

theorem of15_any (w : World) (b row : Nat) (m : Mx) (vl : Value) (l : List Cd) (tier : Nat) (k : Int) (h : MxAt w b m) (hrow : row < m.r) (hl : RdC w vl l) (hll : l.length ≤ 1000) (ht : tier < 256) (hlb : ∀ x ∈ l, x.1 < 4294967296 ∧ x.2 < 256) :
    Calls Try.prog 28 #[.pointer (some ⟨b, 0, none⟩), .int .i64 row, vl, .int .u8 (tier : Nat), .int .i64 k] w fun e w' => ∃ u, e = .returned (.tuple #[u, .bool (m.leave row l tier k).isSome]) ∧ w'.ownsRow w.heap.size 33 1 u ((m.leave row l tier k).getD []).length (((m.leave row l tier k).getD []).map fun c => uv c.1) ∧ Below w.heap.size w w' := by
  have HL := hid (leaving_any w b row m vl l tier k h hrow hl hll ht hlb)
  have hq : ∀ q, m.leave row l tier k = some q → q.length ≤ 16 := fun q hq => Nat.le_trans (Mx.leave_len hq) h.n16
  cases hv : m.leave row l tier k with
  | none =>
    rw [hv] at HL
    clear h hl hq hv
    go_enter Try.func28, Try.ntmps28
    go_wp2_with fail
    refine HL.out.mono ?_
    rintro e w1 ⟨hb, rfl⟩
    have HB := hid hb
    have HNU := hid (numbers_any w1 _ [] (RdC.nil w1) (by simp))
    clear hb
    go_wp2_with fail
    refine HNU.out.mono ?_
    rintro e w2 ⟨u, rfl, ho, hb2⟩
    have HO := hid ho
    have HB2 := hid (HB.out.trans (hb2.mono HB.out.size))
    clear ho hb2
    go_wp2_with fail
    go_ret2
    exact ⟨_, rfl, owns_base HO.out HB.out.size, HB2.out⟩
  | some q =>
    have hql := hq q hv
    rw [hv] at HL
    clear h hl hq hv
    go_enter Try.func28, Try.ntmps28
    go_wp2_with fail
    refine HL.out.mono ?_
    rintro e w1 ⟨hb, v, rfl, hr⟩
    have HB := hid hb
    have HNU := hid (numbers_any w1 _ q hr (by omega))
    clear hb hr
    go_wp2_with fail
    refine HNU.out.mono ?_
    rintro e w2 ⟨u, rfl, ho, hb2⟩
    have HO := hid ho
    have HB2 := hid (HB.out.trans (hb2.mono HB.out.size))
    clear ho hb2
    go_wp2_with fail
    go_ret2
    exact ⟨_, rfl, owns_base HO.out HB.out.size, HB2.out⟩

end Go.Proofs.Ytdongghjchnpbaa
