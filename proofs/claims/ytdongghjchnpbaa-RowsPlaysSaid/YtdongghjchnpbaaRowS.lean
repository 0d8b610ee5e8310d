/-
  Contracts: least, Free.
-/
import Derived.Test.YtdongghjchnpbaaRowL
namespace Go.Proofs.Ytdongghjchnpbaa
open Go.RowKit Go.Shelf
set_option linter.unusedVariables false
attribute [local go_sem] Oper.semAt_some

/-- The nodes that are up and free in a row. -/
def Mx.free (m : Mx) (row : Nat) : List Nat := m.at fun k => m.c (16 * row + k) == 0 && !m.d k

theorem take_prefix {α : Type} {p l : List α} (h : p <+: l) {k : Nat} (hk : k ≤ p.length) : p.take k = l.take k := by
  obtain ⟨r, rfl⟩ := h
  rw [List.take_append_of_le_length hk]

theorem len_eq_no {n k : Nat} (h : n < k) : ((n : Int) == (k : Int)) = false := by simp; omega
theorem len_eq_yes {n k : Nat} (h : n = k) : ((n : Int) == (k : Int)) = true := by simp; omega

/-- 'out = append(out, ..)' onto a row that lies behind base, its variable's box wherever. -/
theorem boxed_appended {W w1 : World} {n₀ B : Nat} {t e : TypeId} {size : Nat} {v v' : Value} {k m : Nat} {xs ys : List Value} {tmp : Obj}
    (hv : Boxed W B t v) (hte : t ≠ e) (hrow : W.ownsRow n₀ e size v k xs) (hn₀ : n₀ ≤ W.heap.size) (hown' : w1.ownsRow n₀ e size v' m ys) (hgrow : (W.alloc tmp).grownBy w1 v.ownBlock) :
    Boxed w1 B t v ∧ Boxed (w1.setCell ⟨B, 0, none⟩ v') B t v' ∧ (w1.setCell ⟨B, 0, none⟩ v').ownsRow n₀ e size v' m ys ∧ KeepsOthers W (w1.setCell ⟨B, 0, none⟩ v') ∧ Keeps (fun k => k = B ∨ n₀ ≤ k) W (w1.setCell ⟨B, 0, none⟩ v') := by
  obtain ⟨h1, h2, h3, h4, h5⟩ := hv.appended (n₀ := min n₀ B) hte (owns_base hrow (by omega)) (by omega) (by omega) (owns_base hown' (by omega)) hgrow
  refine ⟨h1, h2, hown'.kept (grownBy_setCell' w1 B v') (.inr (h1.not_row hte hown').symm), h4, ?_⟩
  refine (((Keeps.refl (fun k => k = B ∨ n₀ ≤ k) W).alloc tmp).trans' (Keeps.of_grown hgrow) fun i hi hrow' => .inr (World.ownsRow.lt hrow i hrow').1).setCell (fun _ => .inl rfl) _

set_option maxRecDepth 100000 in
set_option maxHeartbeats 4000000 in
theorem least_any (w : World) (b row k : Nat) (m : Mx) (h : MxAt w b m) (hrow : row < m.r) (hk1 : 1 ≤ k) (hk16 : k ≤ 16) :
    Calls Try.prog 36 #[.pointer (some ⟨b, 0, none⟩), .int .i64 k, .int .i64 row] w fun e w' => ∃ v, e = .returned v ∧ w'.ownsRow w.heap.size 3 1 v ((m.free row).take k).length (((m.free row).take k).map iv) ∧ (v = .slice none 0 0 ↔ (m.free row).take k = []) ∧ Below w.heap.size w w' := by
  obtain ⟨i0, hi0, hz0, hz1, hz2⟩ := info_parts Try.infoInt
  have HH := hid h
  clear h
  refine (callsIn_wide (n := 5)).1 ?_
  refine callsIn_of_wp_marks Try.func36 rfl trivial ?_ rfl
  simp only [Try.ntmps36, List.size_toArray, List.length_cons, List.length_nil, Nat.reduceAdd, Nat.reduceSub, Array.replicate_succ, Array.replicate_zero, List.push_toArray, List.append_toArray, List.nil_append, List.cons_append]
  have bK := Boxed.new w 3 (.int .i64 k)
  have bO := Boxed.new (w.alloc (.cells #[.int .i64 k] 3)) 34 (.slice none 0 0)
  rw [World.size_alloc] at bO
  have hB0 : Below w.heap.size w ((w.alloc (.cells #[.int .i64 k] 3)).alloc (.cells #[.slice none 0 0] 34)) := ((Below.refl _ w).alloc (Nat.le_refl _) _).alloc (by simp) _
  have BK := hid (bK.alloc (.cells #[.slice none 0 0] 34))
  have BO := hid bO
  have HB0 := hid hB0
  have HS := hid (show ((w.alloc (.cells #[.int .i64 k] 3)).alloc (.cells #[.slice none 0 0] 34)).heap.size = w.heap.size + 2 by simp)
  clear bK bO hB0
  gi_wp2_with fail
  refine ⟨trivial, (callsIn_wide.2 (open_seq ((w.alloc (.cells #[.int .i64 k] 3)).alloc (.cells #[.slice none 0 0] 34)) w.heap.size b row m (HH.out.below HB0.out HH.out.lt) hrow HH.out.lt (by have := HS.out; omega))).mono ?_⟩
  rintro e w1 ⟨lb, rfl, hb1, hg⟩
  have HB1 := hid hb1
  have HG := hid hg
  have hs1 := hb1.size
  rw [HS.out] at hs1
  clear hb1 hg
  have C1 : Boxed w1 w.heap.size 3 (.int .i64 k) := (HB1.out.block w.heap.size (by have := HS.out; omega)).trans BK.out
  have C2 : Boxed w1 (w.heap.size + 1) 34 (.slice none 0 0) := (HB1.out.block (w.heap.size + 1) (by have := HS.out; omega)).trans BO.out
  have D1 := hid C1
  have D2 := hid C2
  clear C1 C2
  gi_wp2
  refine wpIn_rangeFunc_ownG rfl (by omega) (gf := 84) (lb := lb) rfl trivial (enters_of Try.func84 (by kernel_rfl) rfl)
    (HG.out 4) (fun h k => Keeps.trans h k) (kp_b (by omega) (Nat.le_refl _)) (Below.refl _ _) (fun _ => rfl)
    (fun pre W => ((∃ v, Boxed W (w.heap.size + 1) 34 v ∧ W.ownsRow w1.heap.size 3 1 v (pre.take k).length ((pre.take k).map iv) ∧ (v = .slice none 0 0 ↔ pre.take k = [])) ∧ Boxed W w.heap.size 3 (.int .i64 k)) ∧ Below w.heap.size w1 W)
    (fun c pre W => (((∃ v, Boxed W (w.heap.size + 1) 34 v ∧ W.ownsRow w1.heap.size 3 1 v (pre.take k).length ((pre.take k).map iv) ∧ (v = .slice none 0 0 ↔ pre.take k = [])) ∧ Boxed W w.heap.size 3 (.int .i64 k)) ∧ Below w.heap.size w1 W) ∧ (c = .exit 0 ∧ k ≤ pre.length))
    (OwnFrom.and (OwnFrom.and (Own.from (holdsRow_own w1.heap.size (w.heap.size + 1) 34 3 1 (fun pre : List Nat => (pre.take k).length) (fun pre => (pre.take k).map iv) (fun pre v => v = .slice none 0 0 ↔ pre.take k = [])) _) (Own.from (boxed_own w.heap.size 3 (fun _ => .int .i64 k)) _)) (ownFrom_below (by omega) (by omega)))
    (fun c => OwnFrom.and (OwnFrom.and (OwnFrom.and (Own.from (holdsRow_own w1.heap.size (w.heap.size + 1) 34 3 1 (fun pre : List Nat => (pre.take k).length) (fun pre => (pre.take k).map iv) (fun pre v => v = .slice none 0 0 ↔ pre.take k = [])) _) (Own.from (boxed_own w.heap.size 3 (fun _ => .int .i64 k)) _)) (ownFrom_below (by omega) (by omega))) (ownFrom_pure _ fun pre : List Nat => c = .exit 0 ∧ k ≤ pre.length))
    ⟨⟨⟨_, D2.out, by simp; exact World.ownsRow_nil _ _ _ _, by simp⟩, D1.out⟩, Below.refl _ _⟩
    (fun x => { tmps := #[.pointer (some ⟨b, 0, none⟩), .int .i64 k, .int .i64 row, undef, .pointer (some ⟨w.heap.size, 0, none⟩), undef, .slice none 0 0, .pointer (some ⟨w.heap.size + 1, 0, none⟩), .int .i64 x, .pointer (some ⟨b, 0, none⟩), .int .i64 row, .func (.func 84) #[] lb, .int .i64 x, undef, undef, undef, undef, undef, undef, undef, undef, undef], defers := [] }) ?assign ?body ?done ?stop
  case assign =>
    intro l x W K hK
    gi_wp2
    exact hK
  case body =>
    rintro l pre x W ⟨⟨⟨v, hv, hrow', hnil⟩, hbk⟩, hB⟩ hlt
    have hck := hbk.cell
    by_cases hpk : pre.length < k
    · have ht : pre.take k = pre := List.take_of_length_le (by omega)
      rw [ht] at hrow' hnil
      have ht2 : (pre ++ [x]).take k = pre ++ [x] := List.take_of_length_le (by simp; omega)
      obtain ⟨ad, cp, rfl, hcl, hcm⟩ := (RdV.of_own hrow').len
      rw [List.length_map] at hcl hv hrow' hnil
      have hc := hv.cell
      have HT2 := hid ht2
      have HV := hid hv
      have HR := hid hrow'
      have HN := hid hnil
      have HBK := hid hbk
      have HB := hid hB
      have hsW : w1.heap.size ≤ W.heap.size := HB.out.size
      have e1 := len_eq_no hpk
      have e2 : decide ((pre.length : Int) = (k : Int)) = false := by simp; omega
      clear hv hrow' hnil hbk hB ht ht2
      gi_wp2_with (gi_at_builtin; refine wpListIn_append_own _ rfl _ _ 34 rfl w1.heap.size 3 i0 (.int .i64 0) 1 8 Try.underlying34 hi0 hz0 hz1 hz2 rfl (by decide) _ _ _ rfl (HR.out.alloc _) ⟨W.heap.size, 0, none⟩ 1 1 [.int .i64 x] rfl rfl (cell_one_new _ _ _) (by simp [Value.oneCell']) (by unfold maxLen; omega) (by omega) (by simp; omega) ?_; intro v' w2 hown' hgrow _; obtain ⟨g', cap', rfl⟩ := ownsRow_succ hown'; obtain ⟨hv1, hv2, hr2, hk2, hb2⟩ := boxed_appended HV.out (by decide) HR.out (by omega) hown' hgrow; have hc1 := hv1.cell; have hf1 := hv1.frozen; have HK2 := hid hk2; have HB2 := hid hb2; have HV2 := hid hv2; have HR2 := hid hr2; have HG2 := hid hgrow; clear hk2 hb2 hv2 hr2 hgrow hv1 hown')
      exact ⟨HK2.out.from _, HB2.out.mono (fun i _ hi => by unfold Apart; have := HS.out; omega), ⟨⟨_, HV2.out, by rw [HT2.out]; simpa [iv] using HR2.out, by rw [HT2.out]; simp⟩, (show Boxed _ _ _ _ from HB2.out.block' HBK.out (by omega))⟩, HB.out.trans (HB2.out.below (by omega) (fun i hi => by omega))⟩
    · have hl : (pre.take k).length = k := by rw [List.length_take]; omega
      have ht2 : (pre ++ [x]).take k = pre.take k := by rw [List.take_append_of_le_length (by omega)]
      obtain ⟨ad, cp, rfl, hcl, hcm⟩ := (RdV.of_own hrow').len
      rw [List.length_map, hl] at hcl hv hrow' hnil
      have hc := hv.cell
      have HT2 := hid ht2
      have HL := hid hl
      have HV := hid hv
      have HR := hid hrow'
      have HN := hid hnil
      have HBK := hid hbk
      have HB := hid hB
      clear hv hrow' hnil hbk hB hl ht2
      gi_wp2
      exact ⟨KeepsFrom.refl _ _, ⟨⟨⟨_, HV.out, by rw [HT2.out, HL.out]; exact HR.out, by rw [HT2.out]; exact HN.out⟩, HBK.out⟩, HB.out⟩, rfl, by simp; omega⟩
  case done =>
    rintro D ys W hD rfl ⟨⟨⟨v, hv, hrow', hnil⟩, hbk⟩, hB⟩ hD2
    have hc := hv.cell
    have HV := hid hv
    have HR := hid hrow'
    have HN := hid hnil
    have HB := hid hB
    clear hv hrow' hnil hbk hB
    gi_wp2
    refine ⟨by simp, .inl ⟨_, _, rfl, run_takeDeferred hD2, ?_⟩⟩
    exact ⟨_, results_tmp rfl _ _ _, v, rfl, owns_base (ownsRow_putObj HR.out _ hD2 rfl) (by omega), HN.out, (HB0.out.trans (HB1.out.mono (by have := HS.out; omega))).trans (HB.out.trans (belowK_b (w := w) (Nat.le_refl _) W D _ _ (by omega) hD2 rfl rfl))⟩
  case stop =>
    rintro D c pre W hD hpre ⟨⟨⟨⟨v, hv, hrow', hnil⟩, hbk⟩, hB⟩, rfl, hkl⟩ hD2
    rw [take_prefix hpre hkl] at hrow' hnil
    have hc := hv.cell
    have HV := hid hv
    have HR := hid hrow'
    have HN := hid hnil
    have HB := hid hB
    clear hv hrow' hnil hbk hB
    gi_wp2
    refine ⟨by simp, .inl ⟨_, _, rfl, run_takeDeferred hD2, ?_⟩⟩
    exact ⟨_, results_tmp rfl _ _ _, v, rfl, owns_base (ownsRow_putObj HR.out _ hD2 rfl) (by omega), HN.out, (HB0.out.trans (HB1.out.mono (by have := HS.out; omega))).trans (HB.out.trans (belowK_b (w := w) (Nat.le_refl _) W D _ _ (by omega) hD2 rfl rfl))⟩

set_option maxRecDepth 100000 in
set_option maxHeartbeats 4000000 in
theorem free_any (w : World) (b row : Nat) (m : Mx) (h : MxAt w b m) (hrow : row < m.r) :
    Calls Try.prog 31 #[.pointer (some ⟨b, 0, none⟩), .int .i64 row] w fun e w' => e = .returned (.int .i64 (m.free row).length) ∧ Below w.heap.size w w' := by
  have HH := hid h
  clear h
  refine (callsIn_wide (n := 5)).1 ?_
  refine callsIn_of_wp_marks Try.func31 rfl trivial ?_ rfl
  simp only [Try.ntmps31, List.size_toArray, List.length_cons, List.length_nil, Nat.reduceAdd, Nat.reduceSub, Array.replicate_succ, Array.replicate_zero, List.push_toArray, List.append_toArray, List.nil_append, List.cons_append]
  gi_wp2_with fail
  refine ⟨trivial, (callsIn_wide.2 (hasrow_yes w b m row HH.out hrow)).mono ?_⟩
  rintro e w' ⟨rfl, rfl⟩
  have BO := hid (Boxed.new w 3 (.int .i64 0))
  have HB0 := hid (show Below w.heap.size w (w.alloc (.cells #[.int .i64 0] 3)) from (Below.refl _ w).alloc (Nat.le_refl _) _)
  have HS := hid (show (w.alloc (.cells #[.int .i64 0] 3)).heap.size = w.heap.size + 1 by simp)
  gi_wp2_with fail
  refine ⟨trivial, (callsIn_wide.2 (open_seq (w.alloc (.cells #[.int .i64 0] 3)) w.heap.size b row m (HH.out.below HB0.out HH.out.lt) hrow HH.out.lt (by have := HS.out; omega))).mono ?_⟩
  rintro e w1 ⟨lb, rfl, hb1, hg⟩
  have HB1 := hid hb1
  have HG := hid hg
  have hs1 := hb1.size
  rw [HS.out] at hs1
  clear hb1 hg
  have D2 := hid (show Boxed w1 w.heap.size 3 (.int .i64 0) from (HB1.out.block w.heap.size (by have := HS.out; omega)).trans BO.out)
  gi_wp2
  refine wpIn_rangeFunc_ownG rfl (by omega) (gf := 84) (lb := lb) rfl trivial (enters_of Try.func84 (by kernel_rfl) rfl)
    (HG.out 4) (fun h k => Keeps.trans h k) (kp_b (by omega) (Nat.le_refl _)) (Below.refl _ _) (fun _ => rfl)
    (fun pre W => Boxed W w.heap.size 3 (.int .i64 (pre.length : Nat)) ∧ Below w.heap.size w1 W)
    (fun c pre W => False)
    (OwnFrom.and (Own.from (boxed_own w.heap.size 3 (fun pre : List Nat => .int .i64 (pre.length : Nat))) _) (ownFrom_below (by omega) (by omega)))
    (fun _ _ _ _ _ hs _ _ => hs)
    ⟨D2.out, Below.refl _ _⟩
    (fun x => { tmps := #[.pointer (some ⟨b, 0, none⟩), .int .i64 row, undef, undef, .int .i64 0, .pointer (some ⟨w.heap.size, 0, none⟩), .pointer (some ⟨b, 0, none⟩), .int .i64 row, .bool true, .bool false, .pointer (some ⟨b, 0, none⟩), .int .i64 row, .func (.func 84) #[] lb, .int .i64 x, undef, undef, undef], defers := [] }) ?assign ?body ?done ?stop
  case assign =>
    intro l x W K hK
    gi_wp2
    simpa using hK
  case body =>
    rintro l pre x W ⟨hv, hB⟩ hlt
    have hc := hv.cell
    have hf := hv.frozen
    have HV := hid hv
    have HB := hid hB
    clear hv hB
    gi_wp2
    exact ⟨(KeepsOthers.setCell _ _ _).from _, (((Keeps.refl (fun k => k = w.heap.size) W).setCell (p := ⟨w.heap.size, 0, none⟩) (fun _ => rfl) _).mono (fun i _ hi => by unfold Apart; have := HS.out; omega)), by simpa using HV.out.set (.int .i64 ((pre.length : Int) + 1)), HB.out.setCell (p := ⟨w.heap.size, 0, none⟩) (Nat.le_refl _) _⟩
  case done =>
    rintro D ys W hD rfl ⟨hv, hB⟩ hD2
    have hc := hv.cell
    have HV := hid hv
    have HB := hid hB
    clear hv hB
    gi_wp2
    refine ⟨by simp, .inl ⟨_, _, rfl, run_takeDeferred hD2, ?_⟩⟩
    exact ⟨_, results_tmp rfl _ _ _, rfl, (HB0.out.trans (HB1.out.mono (by have := HS.out; omega))).trans (HB.out.trans (belowK_b (w := w) (Nat.le_refl _) W D _ _ (by omega) hD2 rfl rfl))⟩
  case stop =>
    rintro D c pre W hD hpre h hD2
    exact h.elim

theorem free_no (w : World) (b : Nat) (m : Mx) (row : Int) (h : MxAt w b m) (hrow : row < 0 ∨ (m.r : Int) ≤ row) :
    Calls Try.prog 31 #[.pointer (some ⟨b, 0, none⟩), .int .i64 row] w fun e w' => e = .returned (.int .i64 0) ∧ w = w' := by
  have HH := hid h
  have HR := hid hrow
  clear h hrow
  refine (callsIn_wide (n := 5)).1 ?_
  refine callsIn_of_wp_marks Try.func31 rfl trivial ?_ rfl
  simp only [Try.ntmps31, List.size_toArray, List.length_cons, List.length_nil, Nat.reduceAdd, Nat.reduceSub, Array.replicate_succ, Array.replicate_zero, List.push_toArray, List.append_toArray, List.nil_append, List.cons_append]
  gi_wp2_with fail
  refine ⟨trivial, (callsIn_wide.2 (hasrow_no w b m row HH.out HR.out)).mono ?_⟩
  rintro e w' ⟨rfl, rfl⟩
  gi_wp2
  exact ⟨_, results_tmp rfl _ _ _, rfl, rfl⟩

end Go.Proofs.Ytdongghjchnpbaa
