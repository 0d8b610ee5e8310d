/-
  Layer 6: slices.Replace: its other ways, and whole.
-/
import Derived.Test.YtbagpckiegpalaaBmF
namespace Go.Proofs.Ytbagpckiegpalaa
open Go.RowKit
set_option linter.unusedVariables false
set_option linter.unusedSimpArgs false

set_option maxRecDepth 100000 in
set_option maxHeartbeats 4000000 in
/-- REPLACE in place, by more than there were. -/
theorem rep_shift (w : World) (base g n cap i j m T vc : Nat) (va : Option Addr) (xs vs : List Value) (hx : w.ownsRow base 116 2 (.slice (some ⟨g, 0, none⟩) n cap) n xs) (hv : VS w g (.slice va m vc) m vs) (hij : i < j) (hj : j < n) (hm : j < i + m) (hT : T = i + m + (n - j)) (hTc : T ≤ cap) (hn : n ≤ 1000000) (hm2 : m ≤ 2) (h1 : ∀ u ∈ xs, u.oneCell' = true) :
    Calls Try.prog 53 #[.slice (some ⟨g, 0, none⟩) n cap, .int .i64 i, .int .i64 j, .slice va m vc] w (RepPost w base g T (xs.take (i * 2) ++ vs ++ xs.drop (j * 2))) := by
  obtain ⟨zs, hzs⟩ : ∃ zs, zs = xs.take (i * 2) ++ vs ++ xs.drop (j * 2) := ⟨_, rfl⟩
  rw [← hzs]
  obtain ⟨a, ha⟩ : ∃ a, a = i + m := ⟨_, rfl⟩
  obtain ⟨cur, hg, hsz, htk, hcap, hcm, hb⟩ := owns_setRow hx
  have hcm' : cap ≤ 9223372036854775807 := by unfold maxLen at hcm; exact hcm
  have hxl : xs.length = n * 2 := hx.1
  have hvl := hv.len
  have hpl : (xs.take (i * 2)).length = i * 2 := by rw [List.length_take, hxl]; omega
  have hml : (xs.drop (j * 2)).length = (n - j) * 2 := by rw [List.length_drop, hxl]; omega
  have hcl : cur.toList.length = cap * 2 := by simpa using hsz
  have hzl : zs.length = T * 2 := by rw [hzs, len_parts xs vs n i j m hxl (by omega) (by omega) hvl, hT]
  have hp0 : cur.toList.take (i * 2) = xs.take (i * 2) := by rw [← htk, List.take_take, Nat.min_eq_left (by omega)]
  obtain ⟨h, cv, rfl, hne, hhv, hcv⟩ : ∃ h cv, va = some ⟨h, 0, none⟩ ∧ h ≠ g ∧ w.heap[h]? = some (.cells cv 116 (0, 0)) ∧ cv.size ≠ 0 := by
    rcases hv with ⟨_, h0, _⟩ | ⟨h, vc', cv, e, h2, h3, h4, h5, _⟩
    · omega
    · simp only [Value.slice.injEq] at e
      refine ⟨h, cv, e.1, h2, h3, fun h0 => ?_⟩
      have hle : (cv.toList.take (m * 2)).length = m * 2 := by rw [h5]; exact h4
      rw [List.length_take, Array.length_toList, h0] at hle
      omega
  have hov : ∀ nq lb cb, (callFunc 62 #[.slice (some ⟨g, a * 2, none⟩) lb cb, .slice (some ⟨h, 0, none⟩) m vc]).run Try.prog (w.drewN nq) = .ok (.value (.bool false)) (w.drewN nq) := fun nq lb cb => run_ovl (w.drewN nq) g _ _ _ h 0 m vc _ _ hg hhv (fun e => hne e.symm) hcv
  obtain ⟨c1, hc1⟩ : ∃ c1, c1 = (cur.toList.take (a * 2) ++ xs.drop (j * 2) ++ cur.toList.drop (a * 2 + (xs.drop (j * 2)).length)).toArray := ⟨_, rfl⟩
  have hc1l : c1.size = cap * 2 := by rw [hc1]; simp only [List.size_toArray, List.length_append, List.length_take, List.length_drop, hcl, hxl]; omega
  have hcp1 : ∀ nq dc sc, (Builtin.copy_ #[112, 112] 3 #[.slice (some ⟨g, a * 2, none⟩) (T - a) dc, .slice (some ⟨g, j * 2, none⟩) (n - j) sc]).run Try.prog (w.drewN nq).drew = .ok (goInt (n - j : Nat)) ((w.drewN nq).drew.setRow g c1) := fun nq dc sc => by
    rw [hc1]
    exact run_copy_rowK _ _ _ _ 116 2 (n - j) g (a * 2) (T - a) dc ⟨g, j * 2, none⟩ (n - j) sc cur 116 (xs.drop (j * 2)) Try.underlying112 (by kernel_rfl) hg (by simp only [Nat.min_def]; split <;> omega) hml (fun t v ht => row_at w base g n cap j xs hx t v ht) (by rw [hml, hsz]; omega) (fun v hv => h1 v (List.mem_of_mem_drop hv))
  have hg1 : ∀ nq, ((w.drewN nq).drew.setRow g c1).heap[g]? = some (.cells c1 116 (0, 0)) := fun nq => setRow_heap (w.drewN nq).drew g cur _ _ _ hg
  obtain ⟨c2, hc2⟩ : ∃ c2, c2 = (c1.toList.take (i * 2) ++ vs ++ c1.toList.drop (i * 2 + vs.length)).toArray := ⟨_, rfl⟩
  have hcp2 : ∀ nq dc, (Builtin.copy_ #[112, 112] 3 #[.slice (some ⟨g, i * 2, none⟩) (T - i) dc, .slice (some ⟨h, 0, none⟩) m vc]).run Try.prog ((w.drewN nq).drew.setRow g c1) = .ok (goInt m) (((w.drewN nq).drew.setRow g c1).setRow g c2) := fun nq dc => by
    rw [hc2]
    exact (hv.to (w' := (w.drewN nq).drew.setRow g c1) (r := g) (fun k _ h => ⟨setRow_other _ g k _ h, h⟩)).copy (i * 2) (T - i) dc c1 (hg1 nq) (by omega) (by rw [hc1l]; omega)
  have hc2l : c2.size = cap * 2 := by rw [hc2]; simp only [List.size_toArray, List.length_append, List.length_take, List.length_drop, Array.length_toList, hc1l, hvl]; omega
  have hfin : c2.toList.take (T * 2) = zs := by
    rw [hc2, List.toList_toArray]
    have e1 : c1.toList.take (i * 2) = xs.take (i * 2) := by
      rw [hc1, List.toList_toArray, List.append_assoc, List.take_append_of_le_length (by rw [List.length_take, hcl]; omega), List.take_take, Nat.min_eq_left (by omega), hp0]
    have e2 : c1.toList.drop (i * 2 + vs.length) = xs.drop (j * 2) ++ cur.toList.drop (a * 2 + (xs.drop (j * 2)).length) := by
      rw [hc1, List.toList_toArray, List.append_assoc, List.drop_left' (by rw [List.length_take, hcl, hvl]; omega)]
    rw [e1, e2, ← List.append_assoc, ← hzs, List.take_left' hzl]
  have HP := hid (fun nq => show RepPost w base g T zs (.returned (.slice (some ⟨g, 0, none⟩) T cap)) (((w.drewN nq).drew.setRow g c1).setRow g c2) from
    ⟨g, cap, rfl, row_put _ base g T cap zs c2 hb (setRow_heap _ g c1 _ _ _ (hg1 nq)) hc2l hcm hTc hfin hzl, .inl rfl, by
      have k0 : Keeps (fun k => k = g) w (w.drewN nq) := Keeps.of_below (show Below w.heap.size w (w.drewN nq) from below_behindB (Below.refl _ w) nq) (fun k h1 h2 => by omega)
      exact ((k0.drew).trans (setRow_keepsB _ g c1)).trans (setRow_keepsB _ g c2)⟩)
  have HOV := hid hov
  have HC1 := hid hcp1
  have HC2 := hid hcp2
  have q1 : (i : Int) ≤ (j : Int) := by omega
  have q2 : (j : Int) ≤ (n : Int) := by omega
  have q3 : (n : Int) ≤ (cap : Int) := by omega
  have q4 : ((i : Int) = (j : Int)) = False := eq_false (by omega)
  have q5 : ((j : Int) = (n : Int)) = False := eq_false (by omega)
  have q6 : (cap = i) = False := eq_false (by omega)
  have q7 : (cap = j) = False := eq_false (by omega)
  have q8 : (cap = a) = False := eq_false (by omega)
  have q9 : (i : Int) ≤ (cap : Int) := by omega
  have q10 : (T : Int) ≤ (cap : Int) := by omega
  have q11 : (i : Int) ≤ (T : Int) := by omega
  have q12 : (a : Int) ≤ (T : Int) := by omega
  have q13 : decide (a ≤ j) = false := decide_eq_false (by omega)
  have q14 : ¬ (a : Int) ≤ (j : Int) := by omega
  have q15 : ((i : Int) == (j : Int)) = false := by rw [beq_eq_false_iff_ne]; omega
  have q16 : ((j : Int) == (n : Int)) = false := by rw [beq_eq_false_iff_ne]; omega
  have q17 : (i : Int) ≤ (n : Int) := by omega
  clear hzs hx hv hg hsz htk hcap hcm hb hxl hvl hpl hml hcl hzl hp0 hov hc1 hc1l hcp1 hg1 hc2 hcp2 hc2l hfin h1 hhv hcv hne
  have e1 : (i : Int) + (m : Int) = (a : Int) := by omega
  have e2 : IntKind.i64.wrap ((i : Int) + (m : Int)) = (a : Int) := by rw [IntKind.wrap_i64]; omega
  have e3 : (a : Int) + ((n - j : Nat) : Int) = (T : Int) := by omega
  have e4 : IntKind.i64.wrap ((a : Int) + ((n - j : Nat) : Int)) = (T : Int) := by rw [IntKind.wrap_i64]; omega
  have e5 : IntKind.i64.wrap (a : Int) = (a : Int) := by rw [IntKind.wrap_i64]; omega
  have e6 : IntKind.i64.wrap (T : Int) = (T : Int) := by rw [IntKind.wrap_i64]; omega
  clear hT ha
  go_enter Try.func53, Try.ntmps53
  go_upto_region 9 with fail
  go_quiet (fail)
  have hov := HOV.out nq
  go_upto_region 22 with (first
    | (simp only [hov])
    | fail)
  clear hov
  go_region_held3 (fun _ => True) (trivial)
    (first
      | (refine cp_st rfl 112 112 (.tmp 126) (.tmp 129) rfl _ _ _ _ rfl rfl (HC1.out _ _ _) ?_)
      | fail)
  have hcp2 := HC2.out nq
  rw [show (w.drewN nq).drew = w.drewN (nq + 1) from rfl] at hcp2
  go_wp2_with fail
  go_ret
  exact HP.out nq

set_option maxRecDepth 100000 in
set_option maxHeartbeats 4000000 in
/-- REPLACE where there is no room: new memory. -/
theorem rep_new (w : World) (base g n cap i j m T vc : Nat) (va : Option Addr) (xs vs : List Value) (hx : w.ownsRow base 116 2 (.slice (some ⟨g, 0, none⟩) n cap) n xs) (hv : VS w g (.slice va m vc) m vs) (hbase : base ≤ w.heap.size) (hij : i < j) (hj : j < n) (hT : T = i + m + (n - j)) (hTc : cap < T) (hn : n ≤ 1000000) (hm2 : m ≤ 2) (h1 : ∀ u ∈ xs, u.oneCell' = true) :
    Calls Try.prog 53 #[.slice (some ⟨g, 0, none⟩) n cap, .int .i64 i, .int .i64 j, .slice va m vc] w (RepPost w base g T (xs.take (i * 2) ++ vs ++ xs.drop (j * 2))) := by
  obtain ⟨zs, hzs⟩ : ∃ zs, zs = xs.take (i * 2) ++ vs ++ xs.drop (j * 2) := ⟨_, rfl⟩
  rw [← hzs]
  obtain ⟨a, ha⟩ : ∃ a, a = i + m := ⟨_, rfl⟩
  obtain ⟨k, hk⟩ : ∃ k, k = T - i := ⟨_, rfl⟩
  obtain ⟨cur, hg, hsz, htk, hcap, hcm, hb⟩ := owns_setRow hx
  have hcm' : cap ≤ 9223372036854775807 := by unfold maxLen at hcm; exact hcm
  have hik : i + k = T := by omega
  have hgm : ∀ nq, ∃ c w1 Z, (Builtin.append_ #[112, 3] 112 #[.slice (some ⟨g, 0, none⟩) i cap, .int .i64 (k : Int)]).run Try.prog (w.drewN nq) = .ok (.slice (some ⟨w.heap.size, 0, none⟩) T c) w1 ∧ T ≤ c ∧ c ≤ maxLen ∧ Below w.heap.size (w.drewN nq) w1 ∧
      w1.heap[w.heap.size]? = some (.cells Z 116 (0, 0)) ∧ Z.size = c * 2 ∧ Z.toList.take (i * 2) = xs.take (i * 2) := fun nq => by
    have := grow_many (w.drewN nq) base g n cap i k xs (owns_below hx (below_behindB (Below.refl _ w) nq)) (by omega) (by omega) (by omega)
    rw [hik] at this
    exact this
  have HGM := hid hgm
  have HX := hid hx
  have HV := hid hv
  have HZS := hid hzs
  have HH1 := hid h1
  have HIJ := hid (show i < j ∧ j < n ∧ T = i + m + (n - j) ∧ base ≤ w.heap.size ∧ a = i + m from ⟨hij, hj, hT, hbase, ha⟩)
  have q1 : (i : Int) ≤ (j : Int) := by omega
  have q2 : (j : Int) ≤ (n : Int) := by omega
  have q3 : (n : Int) ≤ (cap : Int) := by omega
  have q4 : ((i : Int) = (j : Int)) = False := eq_false (by omega)
  have q5 : ((j : Int) = (n : Int)) = False := eq_false (by omega)
  have q6 : (cap = i) = False := eq_false (by omega)
  have q7 : (cap = j) = False := eq_false (by omega)
  have q9 : (i : Int) ≤ (cap : Int) := by omega
  have q10 : (cap : Int) < (T : Int) := by omega
  have q11 : (i : Int) ≤ (T : Int) := by omega
  have q12 : (a : Int) ≤ (T : Int) := by omega
  have q15 : ((i : Int) == (j : Int)) = false := by rw [beq_eq_false_iff_ne]; omega
  have q16 : ((j : Int) == (n : Int)) = false := by rw [beq_eq_false_iff_ne]; omega
  have q17 : (i : Int) ≤ (n : Int) := by omega
  have e1 : (i : Int) + (m : Int) = (a : Int) := by omega
  have e2 : IntKind.i64.wrap ((i : Int) + (m : Int)) = (a : Int) := by rw [IntKind.wrap_i64]; omega
  have e3 : (a : Int) + ((n - j : Nat) : Int) = (T : Int) := by omega
  have e4 : IntKind.i64.wrap ((a : Int) + ((n - j : Nat) : Int)) = (T : Int) := by rw [IntKind.wrap_i64]; omega
  have e5 : IntKind.i64.wrap (a : Int) = (a : Int) := by rw [IntKind.wrap_i64]; omega
  have e6 : IntKind.i64.wrap (T : Int) = (T : Int) := by rw [IntKind.wrap_i64]; omega
  have e7 : (T : Int) - (i : Int) = (k : Int) := by omega
  clear hzs hx hv hg hsz htk hcap hcm hb h1 hgm hik hT ha hk hij hj hbase
  go_enter Try.func53, Try.ntmps53
  go_upto_region 9 with fail
  go_quiet (fail)
  obtain ⟨c, w1, Z, hrun, hc2, hcm2, hb1, hz, hzsz, hztk⟩ := HGM.out nq
  obtain ⟨r, hr⟩ : ∃ r, r = w.heap.size := ⟨_, rfl⟩
  rw [← hr] at hrun hz
  have HR := hid hrun
  have HF := hid (show T ≤ c ∧ c ≤ maxLen ∧ Below w.heap.size (w.drewN nq) w1 ∧ w1.heap[r]? = some (.cells Z 116 (0, 0)) ∧ Z.size = c * 2 ∧ Z.toList.take (i * 2) = xs.take (i * 2) ∧ r = w.heap.size from ⟨hc2, hcm2, hb1, hz, hzsz, hztk, hr⟩)
  have hcm3 : c ≤ 9223372036854775807 := by unfold maxLen at hcm2; exact hcm2
  clear hrun hc2 hcm2 hb1 hz hzsz hztk hr
  have p1 : (T : Int) ≤ (c : Int) := by have := HF.out.1; omega
  go_upto_region 12 with (first
    | (at_builtin; refine ap_run rfl 112 3 (.tmp 63) (.tmp 66) rfl _ _ _ _ rfl rfl HR.out ?_)
    | fail)
  obtain ⟨hc2, hcm2, hb1, hz, hzsz, hztk, hr⟩ := HF.out
  obtain ⟨hij, hj, hT, hbase, ha⟩ := HIJ.out
  have hx := HX.out
  have hv := HV.out
  have hzs := HZS.out
  have h1 := HH1.out
  obtain ⟨cur, hg, hsz, htk, hcap, hcm, hb⟩ := owns_setRow hx
  have hlg : g < w.heap.size := (Array.getElem?_eq_some_iff.1 hg).1
  have hxl : xs.length = n * 2 := hx.1
  have hvl := hv.len
  have hpl : (xs.take (i * 2)).length = i * 2 := by rw [List.length_take, hxl]; omega
  have hml : (xs.drop (j * 2)).length = (n - j) * 2 := by rw [List.length_drop, hxl]; omega
  have hzl : Z.toList.length = c * 2 := by simpa using hzsz
  have hzsl : zs.length = T * 2 := by rw [hzs, len_parts xs vs n i j m hxl (by omega) (by omega) hvl, hT]
  have hv1 : VS w1 r (.slice va m vc) m vs := hv.to (fun q hq hne => ⟨hb1.block q hq, by omega⟩)
  obtain ⟨c1, hc1⟩ : ∃ c1, c1 = (Z.toList.take (i * 2) ++ vs ++ Z.toList.drop (i * 2 + vs.length)).toArray := ⟨_, rfl⟩
  have hc1l : c1.size = c * 2 := by rw [hc1]; simp only [List.size_toArray, List.length_append, List.length_take, List.length_drop, hzl, hvl]; omega
  have hcp1 : ∀ dc, (Builtin.copy_ #[112, 112] 3 #[.slice (some ⟨r, i * 2, none⟩) (T - i) dc, .slice va m vc]).run Try.prog w1 = .ok (goInt m) (w1.setRow r c1) := fun dc => by
    rw [hc1]
    exact hv1.copy (i * 2) (T - i) dc Z hz (by omega) (by rw [hzsz]; omega)
  obtain ⟨W2, hW2⟩ : ∃ W2, W2 = w1.setRow r c1 := ⟨_, rfl⟩
  rw [← hW2] at hcp1
  have hr2 : W2.heap[r]? = some (.cells c1 116 (0, 0)) := by rw [hW2]; exact setRow_heap w1 r Z _ _ _ hz
  have hx2 : W2.ownsRow base 116 2 (.slice (some ⟨g, 0, none⟩) n cap) n xs := by
    have hg2 : W2.heap[g]? = some (.cells cur 116 (0, 0)) := by rw [hW2]; exact ((setRow_other w1 r g _ (by omega)).trans (hb1.block g hlg)).trans hg
    exact row_put W2 base g n cap xs cur hb hg2 hsz hcm hcap htk hxl
  obtain ⟨c2, hc2'⟩ : ∃ c2, c2 = (c1.toList.take (a * 2) ++ xs.drop (j * 2) ++ c1.toList.drop (a * 2 + (xs.drop (j * 2)).length)).toArray := ⟨_, rfl⟩
  have hcp2 : ∀ dc sc, (Builtin.copy_ #[112, 112] 3 #[.slice (some ⟨r, a * 2, none⟩) (T - a) dc, .slice (some ⟨g, j * 2, none⟩) (n - j) sc]).run Try.prog W2.drew = .ok (goInt (n - j : Nat)) (W2.drew.setRow r c2) := fun dc sc => by
    rw [hc2']
    exact run_copy_rowK W2.drew _ _ _ 116 2 (n - j) r (a * 2) (T - a) dc ⟨g, j * 2, none⟩ (n - j) sc c1 116 (xs.drop (j * 2)) Try.underlying112 (by kernel_rfl) hr2 (by simp only [Nat.min_def]; split <;> omega) hml (fun t v ht => row_at W2 base g n cap j xs hx2 t v ht) (by rw [hml, hc1l]; omega) (fun v hv => h1 v (List.mem_of_mem_drop hv))
  obtain ⟨R, hR, hRl⟩ := two_copies Z.toList (xs.take (i * 2)) vs (xs.drop (j * 2)) (i * 2) hztk hpl (by rw [hzl, hvl, hml]; omega)
  have hfin : c2.toList = zs ++ R := by
    rw [hzs, ← hR, hc2', hc1, show a * 2 = i * 2 + vs.length by omega]
  have hc2l : c2.size = c * 2 := by rw [hc2']; simp only [List.size_toArray, List.length_append, List.length_take, List.length_drop, Array.length_toList, hc1l, hxl]; omega
  have hkp : Keeps (fun k => k = g) w (W2.drew.setRow r c2) := by
    have k1 : Keeps (fun k => k = r) w1 (W2.drew.setRow r c2) := by
      rw [hW2]
      exact ((setRow_keepsB w1 r c1).drew).trans (setRow_keepsB _ r _)
    have k0 : Keeps (fun k => k = g) w w1 := (Keeps.of_below (show Below w.heap.size w (w.drewN nq) from below_behindB (Below.refl _ w) nq) (fun k h1 h2 => by omega)).trans (Keeps.of_below hb1 (fun k h1 h2 => absurd (show k < w.heap.size from h1) (by omega)))
    exact k0.trans' k1 (fun q h1 h2 => by omega)
  have HP := hid (show RepPost w base g T zs (.returned (.slice (some ⟨r, 0, none⟩) T c)) (W2.drew.setRow r c2) from
    ⟨r, c, rfl, row_put _ base r T c zs c2 (by omega) (setRow_heap W2.drew r c1 _ _ _ hr2) hc2l hcm2 hc2 (by rw [hfin]; exact List.take_left' hzsl) hzsl, .inr (by omega), hkp⟩)
  have HC1 := hid hcp1
  have HC2 := hid hcp2
  have p2 : (c = i) = False := eq_false (by omega)
  have p3 : (c = a) = False := eq_false (by omega)
  clear hx hv hzs h1 hg hsz htk hcap hcm hb hlg hxl hvl hpl hml hzl hzsl hv1 hc1 hc1l hcp1 hW2 hr2 hx2 hc2' hcp2 hR hRl hfin hc2l hkp hc2 hcm2 hb1 hz hzsz hztk hr hij hj hT hbase ha
  have hcp1 := HC1.out
  go_upto_region 13 with fail
  clear hcp1
  go_region_held3 (fun _ => True) (trivial)
    (first
      | (refine cp_st rfl 112 112 (.tmp 78) (.tmp 81) rfl _ _ _ _ rfl rfl (HC2.out _ _) ?_)
      | fail)
  go_wp2_with fail
  go_ret
  exact HP.out

set_option maxRecDepth 100000 in
set_option maxHeartbeats 4000000 in
/-- REPLACE of the last ones by fewer. -/
theorem rep_less (w : World) (base g n cap i m vc : Nat) (va : Option Addr) (xs vs : List Value) (hx : w.ownsRow base 116 2 (.slice (some ⟨g, 0, none⟩) n cap) n xs) (hv : VS w g (.slice va m vc) m vs) (hij : i < n) (hm : i + m < n) (hn : n ≤ 1000000) :
    Calls Try.prog 53 #[.slice (some ⟨g, 0, none⟩) n cap, .int .i64 i, .int .i64 n, .slice va m vc] w (RepPost w base g (i + m) (xs.take (i * 2) ++ vs)) := by
  obtain ⟨zs, hzs⟩ : ∃ zs, zs = xs.take (i * 2) ++ vs := ⟨_, rfl⟩
  rw [← hzs]
  obtain ⟨a, ha⟩ : ∃ a, a = i + m := ⟨_, rfl⟩
  rw [← ha]
  obtain ⟨cur, hg, hsz, htk, hcap, hcm, hb⟩ := owns_setRow hx
  have hcm' : cap ≤ 9223372036854775807 := by unfold maxLen at hcm; exact hcm
  have hxl : xs.length = n * 2 := hx.1
  have hvl := hv.len
  have hpl : (xs.take (i * 2)).length = i * 2 := by rw [List.length_take, hxl]; omega
  have hcl : cur.toList.length = cap * 2 := by simpa using hsz
  have hzl : zs.length = a * 2 := by rw [hzs, List.length_append, hpl, hvl]; omega
  have hp0 : cur.toList.take (i * 2) = xs.take (i * 2) := by rw [← htk, List.take_take, Nat.min_eq_left (by omega)]
  obtain ⟨c1, hc1⟩ : ∃ c1, c1 = (cur.toList.take (i * 2) ++ vs ++ cur.toList.drop (i * 2 + vs.length)).toArray := ⟨_, rfl⟩
  have hc1l : c1.size = cap * 2 := by rw [hc1]; simp only [List.size_toArray, List.length_append, List.length_take, List.length_drop, hcl, hvl]; omega
  have hap : (Builtin.append_ #[112, 112] 112 #[.slice (some ⟨g, 0, none⟩) i cap, .slice va m vc]).run Try.prog w = .ok (.slice (some ⟨g, 0, none⟩) a cap) (w.setRow g c1) := by
    rw [hc1, ha]
    exact hv.app i cap cur hg (by omega) hsz
  have hg1 : (w.setRow g c1).heap[g]? = some (.cells c1 116 (0, 0)) := setRow_heap w g cur _ _ _ hg
  have hz0 := zrun_len (n - a)
  obtain ⟨c2, hc2⟩ : ∃ c2, c2 = (c1.toList.take (a * 2) ++ (Builtin.zeroCells (Value.agg #[.int .i64 0, .int .i64 0]).cells (n - a)).toList ++ c1.toList.drop (a * 2 + (n - a) * 2)).toArray := ⟨_, rfl⟩
  have hcp2 : ∀ ty dc, (Builtin.clear_ #[112] ty #[.slice (some ⟨g, a * 2, none⟩) (n - a) dc]).run Try.prog (w.setRow g c1) = .ok (.tuple #[]) ((w.setRow g c1).setRow g c2) := fun ty dc => by
    rw [hc2]
    exact clear_any _ g (a * 2) (n - a) dc c1 hg1 (by rw [hc1l]; omega) ty
  have hc2l : c2.size = cap * 2 := by rw [hc2]; simp only [List.size_toArray, List.length_append, List.length_take, List.length_drop, Array.length_toList, hc1l]; rw [← Array.length_toList, hz0]; omega
  have hfin : c2.toList.take (a * 2) = zs := by
    rw [hc2, List.toList_toArray, List.append_assoc, List.take_left' (by rw [List.length_take, Array.length_toList, hc1l]; omega), hc1, List.toList_toArray, hp0, ← hzs, List.take_left' hzl]
  have HP := hid (show RepPost w base g a zs (.returned (.slice (some ⟨g, 0, none⟩) a cap)) ((w.setRow g c1).setRow g c2) from
    ⟨g, cap, rfl, row_put _ base g a cap zs c2 hb (setRow_heap _ g c1 _ _ _ hg1) hc2l hcm (by omega) hfin hzl, .inl rfl, (setRow_keepsB _ g c1).trans (setRow_keepsB _ g c2)⟩)
  have HA := hid hap
  have HC2 := hid hcp2
  have q1 : (i : Int) ≤ (n : Int) := by omega
  have q3 : (n : Int) ≤ (cap : Int) := by omega
  have q4 : ((i : Int) = (n : Int)) = False := eq_false (by omega)
  have q6 : (cap = i) = False := eq_false (by omega)
  have q8 : (cap = a) = False := eq_false (by omega)
  have q9 : (i : Int) ≤ (cap : Int) := by omega
  have q10 : (a : Int) < (n : Int) := by omega
  have q11 : (a : Int) ≤ (n : Int) := by omega
  have q15 : ((i : Int) == (n : Int)) = false := by rw [beq_eq_false_iff_ne]; omega
  clear hzs ha hx hv hg hsz htk hcap hcm hb hxl hvl hpl hcl hzl hp0 hc1 hc1l hap hg1 hz0 hc2 hcp2 hc2l hfin
  go_enter Try.func53, Try.ntmps53
  go_upto_region 6 with (first
    | (at_builtin; refine ap_run rfl 112 112 (.tmp 32) (.tmp 33) rfl _ _ _ _ rfl rfl HA.out ?_)
    | fail)
  have hcp2 := HC2.out
  go_wp2_with fail
  go_ret
  exact HP.out

set_option maxRecDepth 100000 in
set_option maxHeartbeats 4000000 in
/-- REPLACE of the last ones by no fewer. -/
theorem rep_more (w : World) (base g n cap i m vc : Nat) (va : Option Addr) (xs vs : List Value) (hx : w.ownsRow base 116 2 (.slice (some ⟨g, 0, none⟩) n cap) n xs) (hv : VS w g (.slice va m vc) m vs) (hbase : base ≤ w.heap.size) (hij : i < n) (hm : n ≤ i + m) (hm2 : m ≤ 2) (hn : n ≤ 1000000) :
    Calls Try.prog 53 #[.slice (some ⟨g, 0, none⟩) n cap, .int .i64 i, .int .i64 n, .slice va m vc] w (RepPost w base g (i + m) (xs.take (i * 2) ++ vs)) := by
  obtain ⟨zs, hzs⟩ : ∃ zs, zs = xs.take (i * 2) ++ vs := ⟨_, rfl⟩
  rw [← hzs]
  obtain ⟨cur, hg, hsz, htk, hcap, hcm, hb⟩ := owns_setRow hx
  have hcm' : cap ≤ 9223372036854775807 := by unfold maxLen at hcm; exact hcm
  have hxl : xs.length = n * 2 := hx.1
  have hpl : (xs.take (i * 2)).length = i * 2 := by rw [List.length_take, hxl]; omega
  have hx0 : w.ownsRow base 116 2 (.slice (some ⟨g, 0, none⟩) i cap) i (xs.take (i * 2)) :=
    row_put w base g i cap _ cur hb hg hsz hcm (by omega) (by rw [← htk, List.take_take, Nat.min_eq_left (by omega)]) hpl
  obtain ⟨ad, cp, w', hrun, h1, h2, h3⟩ := run_apps2 w 112 base 112 116 2 16 (.agg #[.int .i64 0, .int .i64 0]) Try.underlying112 (by kernel_rfl) rfl (by omega) (.slice (some ⟨g, 0, none⟩) i cap) (.slice va m vc) i m _ vs hx0 hv.src hv.len hv.one (by omega) (by omega) hbase
  obtain ⟨a, ha⟩ : ∃ a, a = i + m := ⟨_, rfl⟩
  rw [← ha] at hrun h1 h3 ⊢
  rw [← hzs] at h1
  obtain ⟨q, rfl⟩ : ∃ q, ad = some ⟨q, 0, none⟩ := by
    rcases h1.2 with ⟨hv, hn⟩ | ⟨g', cap', cur', hv, _⟩
    · omega
    · simp only [Value.slice.injEq] at hv
      exact ⟨g', hv.1⟩
  have HP := hid (show RepPost w base g a zs (.returned (.slice (some ⟨q, 0, none⟩) a cp)) w' from ⟨q, cp, rfl, h1, by
    rcases h3 q rfl with e | e
    · left; simpa [Value.ownBlock] using e.symm
    · exact .inr e, (Keeps.of_grown h2).mono (fun i _ e => by simpa [Value.ownBlock] using e.symm)⟩)
  have HA := hid hrun
  have q1 : (i : Int) ≤ (n : Int) := by omega
  have q3 : (n : Int) ≤ (cap : Int) := by omega
  have q4 : ((i : Int) = (n : Int)) = False := eq_false (by omega)
  have q6 : (cap = i) = False := eq_false (by omega)
  have q9 : (i : Int) ≤ (cap : Int) := by omega
  have q10 : decide ((a : Int) < (n : Int)) = false := decide_eq_false (by omega)
  have q11 : decide (a < n) = false := decide_eq_false (by omega)
  have q12 : ¬ (a : Int) < (n : Int) := by omega
  have q15 : ((i : Int) == (n : Int)) = false := by rw [beq_eq_false_iff_ne]; omega
  clear hzs ha hx hv hbase hg hsz htk hcap hcm hb hxl hpl hx0 hrun h1 h2 h3
  go_enter Try.func53, Try.ntmps53
  go_upto_region 6 with (first
    | (at_builtin; refine ap_run rfl 112 112 (.tmp 32) (.tmp 33) rfl _ _ _ _ rfl rfl HA.out ?_)
    | fail)
  go_wp2_with fail
  go_ret
  exact HP.out

set_option maxRecDepth 100000 in
set_option maxHeartbeats 4000000 in
/-- REPLACE of none by one: Insert. -/
theorem rep_ins (w : World) (base g n cap h i : Nat) (b0 b1 : Int) (xs : List Value) (hx : w.ownsRow base 116 2 (.slice (some ⟨g, 0, none⟩) n cap) n xs) (hh : w.heap[h]? = some (.cells #[.int .i64 b0, .int .i64 b1] 116 (0, 0))) (hne : h ≠ g) (hbase : base ≤ w.heap.size) (hi : i ≤ n) (hn : n ≤ 1000000) (h1 : ∀ u ∈ xs, u.oneCell' = true) :
    Calls Try.prog 53 #[.slice (some ⟨g, 0, none⟩) n cap, .int .i64 i, .int .i64 i, .slice (some ⟨h, 0, none⟩) 1 1] w (RepPost w base g (n + 1) (xs.take (i * 2) ++ [.int .i64 b0, .int .i64 b1] ++ xs.drop (i * 2))) := by
  obtain ⟨zs, hzs⟩ : ∃ zs, zs = xs.take (i * 2) ++ [Value.int .i64 b0, .int .i64 b1] ++ xs.drop (i * 2) := ⟨_, rfl⟩
  rw [← hzs]
  have hc := ins_any w base g n cap h i b0 b1 xs hx hh hne hbase hi hn h1
  rw [← hzs] at hc
  obtain ⟨cur, hg, hsz, htk, hcap, hcm, hb⟩ := owns_setRow hx
  have hcm' : cap ≤ 9223372036854775807 := by unfold maxLen at hcm; exact hcm
  have HI := hid hc
  have q1 : (i : Int) ≤ (n : Int) := by omega
  have q3 : (n : Int) ≤ (cap : Int) := by omega
  have q9 : (i : Int) ≤ (cap : Int) := by omega
  clear hzs hc hx hh hne hbase hg hsz htk hcap hcm hb h1
  go_enter Try.func53, Try.ntmps53
  by_cases hci : cap = i
  · have q6 : (cap = i) = True := eq_true hci
    clear hci
    go_wp2_with (first
      | (go_at_call 61; refine (HI.out).mono ?_; rintro e w2 ⟨q, C, rfl, h2⟩)
      | fail)
    go_ret
    exact ⟨q, C, rfl, h2⟩
  · have q6 : (cap = i) = False := eq_false hci
    clear hci
    go_wp2_with (first
      | (go_at_call 61; refine (HI.out).mono ?_; rintro e w2 ⟨q, C, rfl, h2⟩)
      | fail)
    go_ret
    exact ⟨q, C, rfl, h2⟩

/-- REPLACE of one or two by none, one or two. -/
theorem rep_any (w : World) (base g n cap i j m vc : Nat) (va : Option Addr) (xs vs : List Value) (hx : w.ownsRow base 116 2 (.slice (some ⟨g, 0, none⟩) n cap) n xs) (hv : VS w g (.slice va m vc) m vs) (hbase : base ≤ w.heap.size) (hij : i < j) (hj : j ≤ n) (hm2 : m ≤ 2) (hn : n ≤ 1000000) (h1 : ∀ u ∈ xs, u.oneCell' = true) :
    Calls Try.prog 53 #[.slice (some ⟨g, 0, none⟩) n cap, .int .i64 i, .int .i64 j, .slice va m vc] w (RepPost w base g (i + m + (n - j)) (xs.take (i * 2) ++ vs ++ xs.drop (j * 2))) := by
  rcases Nat.lt_or_ge j n with hlt | hge
  · rcases Nat.lt_or_ge j (i + m) with h | h
    · rcases Nat.lt_or_ge cap (i + m + (n - j)) with hr | hr
      · exact rep_new w base g n cap i j m _ vc va xs vs hx hv hbase hij hlt rfl hr hn hm2 h1
      · exact rep_shift w base g n cap i j m _ vc va xs vs hx hv hij hlt h rfl hr hn hm2 h1
    · exact rep_in w base g n cap i j m _ vc va xs vs hx hv hij hlt h rfl hn h1
  · obtain rfl : j = n := by omega
    have hl : xs.length = j * 2 := hx.1
    rw [List.drop_eq_nil_of_le (by omega), List.append_nil, Nat.sub_self, Nat.add_zero]
    rcases Nat.lt_or_ge (i + m) j with h | h
    · exact rep_less w base g j cap i m vc va xs vs hx hv hij h hn
    · exact rep_more w base g j cap i m vc va xs vs hx hv hbase hij h hm2 hn

end Go.Proofs.Ytbagpckiegpalaa
