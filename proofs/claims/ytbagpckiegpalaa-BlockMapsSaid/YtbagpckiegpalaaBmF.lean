/-
  Layer 6: slices.Replace of one or two runs by none, one or two: its contract.
-/
import Derived.Test.YtbagpckiegpalaaBmE
namespace Go.Proofs.Ytbagpckiegpalaa
open Go.RowKit
set_option linter.unusedVariables false
set_option linter.unusedSimpArgs false

theorem setRow_self (w : World) (g : Nat) (cs : Array Value) (t : TypeId) (fr : Nat × Nat) (h : w.heap[g]? = some (.cells cs t fr)) : w.setRow g cs = w := by
  have hh : (w.setRow g cs).heap = w.heap := by
    apply Array.ext_getElem?
    intro i
    by_cases hi : i = g
    · subst hi; exact (setRow_heap w i cs cs t fr h).trans h.symm
    · exact setRow_other w g i cs hi
  show { w with heap := (w.setRow g cs).heap } = w
  rw [hh]

/-- What is put in: m runs of a row that isn't g, or none. -/
def VS (w : World) (g : Nat) (v : Value) (m : Nat) (vs : List Value) : Prop :=
  (v = .slice none 0 0 ∧ m = 0 ∧ vs = []) ∨ ∃ h vc cv, v = .slice (some ⟨h, 0, none⟩) m vc ∧ h ≠ g ∧ w.heap[h]? = some (.cells cv 116 (0, 0)) ∧ vs.length = m * 2 ∧ cv.toList.take (m * 2) = vs ∧ ∀ u ∈ vs, u.oneCell' = true

theorem VS.len {w : World} {g : Nat} {v : Value} {m : Nat} {vs : List Value} (h : VS w g v m vs) : vs.length = m * 2 := by
  rcases h with ⟨_, rfl, rfl⟩ | ⟨_, _, _, _, _, _, h, _⟩
  · rfl
  · exact h

theorem VS.one {w : World} {g : Nat} {v : Value} {m : Nat} {vs : List Value} (h : VS w g v m vs) : ∀ u ∈ vs, u.oneCell' = true := by
  rcases h with ⟨_, rfl, rfl⟩ | ⟨_, _, _, _, _, _, _, _, h⟩
  · intro u hu; cases hu
  · exact h

theorem VS.to {w w' : World} {g r : Nat} {v : Value} {m : Nat} {vs : List Value} (h : VS w g v m vs) (hk : ∀ k, k < w.heap.size → k ≠ g → w'.heap[k]? = w.heap[k]? ∧ k ≠ r) : VS w' r v m vs := by
  rcases h with h | ⟨q, vc, cv, h1, h2, h3, h4⟩
  · exact .inl h
  · obtain ⟨a, b⟩ := hk q (Array.getElem?_eq_some_iff.1 h3).1 h2
    exact .inr ⟨q, vc, cv, h1, b, a.trans h3, h4⟩

theorem VS.src {w : World} {g : Nat} {v : Value} {m : Nat} {vs : List Value} (h : VS w g v m vs) : SrcC w v m vs := by
  rcases h with h | ⟨q, vc, cv, h1, h2, h3, h4, h5, h6⟩
  · exact .inl h
  · refine .inr ⟨_, vc, h1, fun j y hj => ?_⟩
    rw [Addr.add_lit, Nat.zero_add, cell_of_row _ _ _ _ _ _ h3]
    rw [← h5, List.getElem?_take] at hj
    split at hj
    · simpa using hj
    · cases hj

/-- Copy of them into the row g. -/
theorem VS.copy {w : World} {g : Nat} {v : Value} {m : Nat} {vs : List Value} (h : VS w g v m vs) (o dl dc : Nat) (cur : Array Value) (hg : w.heap[g]? = some (.cells cur 116 (0, 0))) (hm : m ≤ dl) (hfit : o + m * 2 ≤ cur.size) :
    (Builtin.copy_ #[112, 112] 3 #[.slice (some ⟨g, o, none⟩) dl dc, v]).run Try.prog w = .ok (goInt m) (w.setRow g (cur.toList.take o ++ vs ++ cur.toList.drop (o + vs.length)).toArray) := by
  rcases h with ⟨rfl, rfl, rfl⟩ | ⟨q, vc, cv, rfl, h2, h3, h4, h5, h6⟩
  · have e : (cur.toList.take o ++ [] ++ cur.toList.drop (o + ([] : List Value).length)).toArray = cur := by simp
    rw [e, setRow_self w g cur _ _ hg]
    have hinfo : (Try.prog.info? 116).map (fun i => (i.zero, i.size, i.bytes)) = some (some (.agg #[.int .i64 0, .int .i64 0]), 2, 16) := by kernel_rfl
    obtain ⟨i0, hi0, hz0, hz1, hz2⟩ := info_parts hinfo
    simp [Builtin.copy_, run_underlying Try.underlying112, Builtin.lenOf, Builtin.firstCells, sizeOf, typeInfo, hi0, hz1, storeCells]
  · exact run_copy_rowK w _ _ _ 116 2 m g o dl dc ⟨q, 0, none⟩ m vc cur 116 vs Try.underlying112 (by kernel_rfl) hg (by simp only [Nat.min_def]; split <;> omega) h4 (fun j y hj => by
      rw [Addr.add_lit, Nat.zero_add, cell_of_row _ _ _ _ _ _ h3]
      rw [← h5, List.getElem?_take] at hj
      split at hj
      · simpa using hj
      · cases hj) (by rw [h4]; exact hfit) h6

/-- Clear of m runs, or of none. -/
theorem clear_any (w : World) (g o m c : Nat) (cur : Array Value) (hg : w.heap[g]? = some (.cells cur 116 (0, 0))) (hfit : o + m * 2 ≤ cur.size) (ty : TypeId) :
    (Builtin.clear_ #[112] ty #[.slice (some ⟨g, o, none⟩) m c]).run Try.prog w = .ok (.tuple #[]) (w.setRow g (cur.toList.take o ++ (Builtin.zeroCells (Value.agg #[.int .i64 0, .int .i64 0]).cells m).toList ++ cur.toList.drop (o + m * 2)).toArray) := by
  rcases Nat.eq_zero_or_pos m with rfl | hm
  · have e : (cur.toList.take o ++ (Builtin.zeroCells (Value.agg #[.int .i64 0, .int .i64 0]).cells 0).toList ++ cur.toList.drop (o + 0 * 2)).toArray = cur := by simp [Builtin.zeroCells]
    rw [e, setRow_self w g cur _ _ hg]
    simp [Builtin.clear_, run_underlying Try.underlying112]
  · have hl := zrun_len m
    rw [run_clear_many w 112 116 ty _ m hm _ Try.underlying112 Try.zeroValue116 rfl (zrun_one m) g o c (fun j hj => by
      rw [cell_of_row _ _ _ _ _ _ hg]
      have : o + j < cur.size := by omega
      simp; omega) (fun j hj => frozen_of_row _ _ _ _ _ hg), setCells_row w g o cur _ _ hg (by omega) (zrun_one m), hl]

/-- Append of them behind the first i runs, where there is room. -/
theorem VS.app {w : World} {g : Nat} {v : Value} {m : Nat} {vs : List Value} (h : VS w g v m vs) (i cap : Nat) (cur : Array Value) (hg : w.heap[g]? = some (.cells cur 116 (0, 0))) (hr : i + m ≤ cap) (hs : cur.size = cap * 2) :
    (Builtin.append_ #[112, 112] 112 #[.slice (some ⟨g, 0, none⟩) i cap, v]).run Try.prog w = .ok (.slice (some ⟨g, 0, none⟩) (i + m) cap) (w.setRow g (cur.toList.take (i * 2) ++ vs ++ cur.toList.drop (i * 2 + vs.length)).toArray) := by
  have hinfo : (Try.prog.info? 116).map (fun i => (i.zero, i.size, i.bytes)) = some (some (.agg #[.int .i64 0, .int .i64 0]), 2, 16) := by kernel_rfl
  obtain ⟨i0, hi0, hz0, hz1, hz2⟩ := info_parts hinfo
  have hl := h.len
  have h1 := h.one
  have hsrc := h.src
  rcases hsrc with ⟨rfl, rfl, rfl⟩ | ⟨a, c, rfl, hc⟩
  · have e : (cur.toList.take (i * 2) ++ [] ++ cur.toList.drop (i * 2 + ([] : List Value).length)).toArray = cur := by simp
    rw [e, setRow_self w g cur _ _ hg]
    have hi' : i ≤ cap := by omega
    simp [Builtin.append_, run_underlying Try.underlying112, sizeOf, typeInfo, hi0, Builtin.lenOf, Builtin.firstCells, hi', storeCells]
  · have hr := run_append_room (P := Try.prog) w 112 112 116 i0 Try.underlying112 hi0 g i cap cur hg a m c vs (by rw [hz1]; exact hl) hc h1 hr (by rw [hz1, hl, hs]; omega)
    rw [hz1] at hr
    exact hr

theorem len_parts (xs vs : List Value) (n i j m : Nat) (hx : xs.length = n * 2) (hi : i ≤ n) (hj : j ≤ n) (hv : vs.length = m * 2) : (xs.take (i * 2) ++ vs ++ xs.drop (j * 2)).length = (i + m + (n - j)) * 2 := by
  simp only [List.length_append, List.length_take, List.length_drop, hx, hv]; omega

set_option maxRecDepth 100000 in
set_option maxHeartbeats 4000000 in
/-- REPLACE in place, by no more than there were. -/
theorem rep_in (w : World) (base g n cap i j m T vc : Nat) (va : Option Addr) (xs vs : List Value) (hx : w.ownsRow base 116 2 (.slice (some ⟨g, 0, none⟩) n cap) n xs) (hv : VS w g (.slice va m vc) m vs) (hij : i < j) (hj : j < n) (hm : i + m ≤ j) (hT : T = i + m + (n - j)) (hn : n ≤ 1000000) (h1 : ∀ u ∈ xs, u.oneCell' = true) :
    Calls Try.prog 53 #[.slice (some ⟨g, 0, none⟩) n cap, .int .i64 i, .int .i64 j, .slice va m vc] w (RepPost w base g T (xs.take (i * 2) ++ vs ++ xs.drop (j * 2))) := by
  obtain ⟨zs, hzs⟩ : ∃ zs, zs = xs.take (i * 2) ++ vs ++ xs.drop (j * 2) := ⟨_, rfl⟩
  rw [← hzs]
  obtain ⟨a, ha⟩ : ∃ a, a = i + m := ⟨_, rfl⟩
  obtain ⟨cur, hg, hsz, htk, hcap, hcm, hb⟩ := owns_setRow hx
  have hcm' : cap ≤ 9223372036854775807 := by unfold maxLen at hcm; exact hcm
  have hxl : xs.length = n * 2 := hx.1
  have hvl := hv.len
  have hpl : (xs.take (i * 2)).length = i * 2 := by rw [List.length_take, hxl]; omega
  have hml : (xs.drop (j * 2)).length = (n - j) * 2 := by rw [List.length_drop, hxl]; omega
  have hcl : cur.toList.length = cap * 2 := by simpa using hsz
  have hzl : zs.length = T * 2 := by rw [hzs, len_parts xs vs n i j m hxl (by omega) (by omega) hvl, hT]
  have hp0 : cur.toList.take (i * 2) = xs.take (i * 2) := by rw [← htk, List.take_take, Nat.min_eq_left (by omega)]
  obtain ⟨c1, hc1⟩ : ∃ c1, c1 = (cur.toList.take (i * 2) ++ vs ++ cur.toList.drop (i * 2 + vs.length)).toArray := ⟨_, rfl⟩
  have hc1l : c1.size = cap * 2 := by rw [hc1]; simp only [List.size_toArray, List.length_append, List.length_take, List.length_drop, hcl, hvl]; omega
  have hcp1 : ∀ nq dc, (Builtin.copy_ #[112, 112] 3 #[.slice (some ⟨g, i * 2, none⟩) (T - i) dc, .slice va m vc]).run Try.prog (w.drewN nq) = .ok (goInt m) ((w.drewN nq).setRow g c1) := fun nq dc => by
    rw [hc1]
    exact (hv.to (w' := w.drewN nq) (r := g) (fun k _ h => ⟨rfl, h⟩)).copy (i * 2) (T - i) dc cur hg (by omega) (by rw [hsz]; omega)
  have hg1 : ∀ nq, ((w.drewN nq).setRow g c1).drew.heap[g]? = some (.cells c1 116 (0, 0)) := fun nq => setRow_heap (w.drewN nq) g cur _ _ _ hg
  have hrest : ∀ t v, (xs.drop (j * 2))[t]? = some v → c1.toList[j * 2 + t]? = some v := fun t v ht => by
    rw [List.getElem?_drop] at ht
    rw [hc1]
    rw [List.toList_toArray, List.getElem?_append_right (by rw [List.length_append, hp0, hpl, hvl]; omega), List.length_append, hp0, hpl, List.getElem?_drop, show i * 2 + vs.length + (j * 2 + t - (i * 2 + vs.length)) = j * 2 + t by omega]
    rw [← htk, List.getElem?_take] at ht
    split at ht
    · exact ht
    · cases ht
  obtain ⟨c2, hc2⟩ : ∃ c2, c2 = (c1.toList.take (a * 2) ++ xs.drop (j * 2) ++ c1.toList.drop (a * 2 + (xs.drop (j * 2)).length)).toArray := ⟨_, rfl⟩
  have hcp2 : ∀ nq dc sc, (Builtin.copy_ #[112, 112] 3 #[.slice (some ⟨g, a * 2, none⟩) (T - a) dc, .slice (some ⟨g, j * 2, none⟩) (n - j) sc]).run Try.prog ((w.drewN nq).setRow g c1).drew = .ok (goInt (n - j : Nat)) (((w.drewN nq).setRow g c1).drew.setRow g c2) := fun nq dc sc => by
    rw [hc2]
    exact run_copy_rowK _ _ _ _ 116 2 (n - j) g (a * 2) (T - a) dc ⟨g, j * 2, none⟩ (n - j) sc c1 116 (xs.drop (j * 2)) Try.underlying112 (by kernel_rfl) (hg1 nq) (by simp only [Nat.min_def]; split <;> omega) hml (fun t v ht => by
      rw [Addr.add_lit, cell_of_row _ _ _ _ _ _ (hg1 nq), ← Array.getElem?_toList]; exact hrest t v ht) (by rw [hml, hc1l]; omega) (fun v hv => h1 v (List.mem_of_mem_drop hv))
  have hg2 : ∀ nq, (((w.drewN nq).setRow g c1).drew.setRow g c2).heap[g]? = some (.cells c2 116 (0, 0)) := fun nq => setRow_heap _ g c1 _ _ _ (hg1 nq)
  obtain ⟨R, hR, hRl⟩ := two_copies cur.toList (xs.take (i * 2)) vs (xs.drop (j * 2)) (i * 2) hp0 hpl (by rw [hcl, hvl, hml]; omega)
  have hc2t : c2.toList = zs ++ R := by
    rw [hzs, ← hR, hc2, hc1, show a * 2 = i * 2 + vs.length by omega]
  have hc2l : c2.size = cap * 2 := by rw [hc2]; simp only [List.size_toArray, List.length_append, List.length_take, List.length_drop, Array.length_toList, hc1l, hxl]; omega
  obtain ⟨o, ho, hoo⟩ : ∃ o : Nat, (if cap = T then (some ⟨g, 0, none⟩ : Option Addr) else some ⟨g, T * 2, none⟩) = some ⟨g, o, none⟩ ∧ (o = T * 2 ∨ (n - T = 0 ∧ o = 0)) := by
    by_cases h : cap = T
    · exact ⟨0, by rw [if_pos h], .inr ⟨by omega, rfl⟩⟩
    · exact ⟨T * 2, by rw [if_neg h], .inl rfl⟩
  obtain ⟨c3, hc3⟩ : ∃ c3, c3 = (c2.toList.take o ++ (Builtin.zeroCells (Value.agg #[.int .i64 0, .int .i64 0]).cells (n - T)).toList ++ c2.toList.drop (o + (n - T) * 2)).toArray := ⟨_, rfl⟩
  have hz0 := zrun_len (n - T)
  have hcp3 : ∀ nq ty dc, (Builtin.clear_ #[112] ty #[.slice (some ⟨g, o, none⟩) (n - T) dc]).run Try.prog (((w.drewN nq).setRow g c1).drew.setRow g c2) = .ok (.tuple #[]) ((((w.drewN nq).setRow g c1).drew.setRow g c2).setRow g c3) := fun nq ty dc => by
    rw [hc3]
    exact clear_any _ g o (n - T) dc c2 (hg2 nq) (by rw [hc2l]; omega) ty
  have hc3l : c3.size = cap * 2 := by rw [hc3]; simp only [List.size_toArray, List.length_append, List.length_take, List.length_drop, Array.length_toList, hc2l]; rw [← Array.length_toList, hz0]; omega
  have hc3t : c3.toList.take (T * 2) = zs := by
    rw [hc3, List.toList_toArray]
    rcases hoo with e | ⟨e1, e2⟩
    · rw [e, List.append_assoc, List.take_left' (by rw [List.length_take, hc2t, List.length_append, hzl]; omega), hc2t, List.take_left' hzl]
    · rw [e1] at hz0 ⊢
      rw [List.eq_nil_of_length_eq_zero hz0, e2]
      simp only [List.take_zero, List.nil_append, Nat.zero_mul, Nat.add_zero, List.drop_zero]
      rw [hc2t, List.take_left' hzl]
  have HP := hid (fun nq => show RepPost w base g T zs (.returned (.slice (some ⟨g, 0, none⟩) T cap)) ((((w.drewN nq).setRow g c1).drew.setRow g c2).setRow g c3) from
    ⟨g, cap, rfl, row_put _ base g T cap zs c3 hb (setRow_heap _ g c2 _ _ _ (hg2 nq)) hc3l hcm (by omega) hc3t hzl, .inl rfl, by
      have k0 : Keeps (fun k => k = g) w (w.drewN nq) := Keeps.of_below (show Below w.heap.size w (w.drewN nq) from below_behindB (Below.refl _ w) nq) (fun k h1 h2 => by omega)
      exact (((k0.trans (setRow_keepsB _ g c1)).drew).trans (setRow_keepsB _ g c2)).trans (setRow_keepsB _ g c3)⟩)
  have HC1 := hid hcp1
  have HC2 := hid hcp2
  have HC3 := hid hcp3
  have HO := hid ho
  have q1 : (i : Int) ≤ (j : Int) := by omega
  have q2 : (j : Int) ≤ (n : Int) := by omega
  have q3 : (n : Int) ≤ (cap : Int) := by omega
  have q4 : ((i : Int) = (j : Int)) = False := eq_false (by omega)
  have q5 : ((j : Int) = (n : Int)) = False := eq_false (by omega)
  have q6 : (cap = i) = False := eq_false (by omega)
  have q7 : (cap = j) = False := eq_false (by omega)
  have q8 : (cap = a) = False := eq_false (by omega)
  have q9 : (i : Int) ≤ (cap : Int) := by omega
  have q10 : (T : Int) ≤ (cap : Int) := by omega
  have q11 : (i : Int) ≤ (T : Int) := by omega
  have q12 : (a : Int) ≤ (T : Int) := by omega
  have q13 : (a : Int) ≤ (j : Int) := by omega
  have q14 : (T : Int) ≤ (n : Int) := by omega
  have q15 : ((i : Int) == (j : Int)) = false := by rw [beq_eq_false_iff_ne]; omega
  have q16 : ((j : Int) == (n : Int)) = false := by rw [beq_eq_false_iff_ne]; omega
  have q17 : (i : Int) ≤ (n : Int) := by omega
  clear hzs hx hv hg hsz htk hcap hcm hb hxl hvl hpl hml hcl hzl hp0 hc1 hc1l hcp1 hg1 hrest hc2 hcp2 hg2 hR hRl hc2t hc2l ho hoo hc3 hz0 hcp3 hc3l hc3t h1
  have e1 : (i : Int) + (m : Int) = (a : Int) := by omega
  have e2 : IntKind.i64.wrap ((i : Int) + (m : Int)) = (a : Int) := by rw [IntKind.wrap_i64]; omega
  have e3 : (a : Int) + ((n - j : Nat) : Int) = (T : Int) := by omega
  have e4 : IntKind.i64.wrap ((a : Int) + ((n - j : Nat) : Int)) = (T : Int) := by rw [IntKind.wrap_i64]; omega
  have e5 : IntKind.i64.wrap (a : Int) = (a : Int) := by rw [IntKind.wrap_i64]; omega
  have e6 : IntKind.i64.wrap (T : Int) = (T : Int) := by rw [IntKind.wrap_i64]; omega
  clear hT ha
  go_enter Try.func53, Try.ntmps53
  go_upto_region 9 with fail
  go_quiet (fail)
  go_upto_region 17 with fail
  have hcp1 := HC1.out nq
  go_upto_region 18 with fail
  clear hcp1
  have hcp2 := HC2.out nq
  go_region_held3 (fun _ => True) (trivial)
    (first
      | (refine cp_st rfl 112 112 (.tmp 103) (.tmp 106) rfl _ _ _ _ rfl rfl (HC2.out _ _ _) ?_)
      | fail)
  clear hcp2
  have hcp3 := HC3.out nq
  have ho := HO.out
  go_wp2_with fail
  go_ret
  exact HP.out nq

end Go.Proofs.Ytbagpckiegpalaa
