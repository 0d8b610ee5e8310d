/-
  Layer 6: slices.Insert of one run: its contract, in its three ways.
-/
import Derived.Test.YtbagpckiegpalaaBmD
import Derived.Test.YtbagpckiegpalaaMpD
import Derived.Lib.Overlaps
import Derived.Laws.Externs
import Derived.Lib.AppendZerosOnto
import Derived.BigQuiet
namespace Go.Proofs.Ytbagpckiegpalaa
open Go.RowKit
set_option linter.unusedVariables false
set_option linter.unusedSimpArgs false

/-- The elements zs, N of them, in the row g or in a new one; nothing else that was there has changed. -/
def RepPost (w : World) (base g N : Nat) (zs : List Value) (e : Ending) (w' : World) : Prop :=
  ∃ q C, e = .returned (.slice (some ⟨q, 0, none⟩) N C) ∧ w'.ownsRow base 116 2 (.slice (some ⟨q, 0, none⟩) N C) N zs ∧ (q = g ∨ w.heap.size ≤ q) ∧ Keeps (fun k => k = g) w w'

theorem run_ovl (w : World) (h o m vc g o2 lb cb : Nat) (cs cur : Array Value) (hh : w.heap[h]? = some (.cells cs 116 (0, 0))) (hg : w.heap[g]? = some (.cells cur 116 (0, 0))) (hne : h ≠ g) (hc : cur.size ≠ 0) :
    (callFunc 62 #[.slice (some ⟨h, o, none⟩) m vc, .slice (some ⟨g, o2, none⟩) lb cb]).run Try.prog w = .ok (.value (.bool false)) w := by
  have hinfo : (Try.prog.info? 116).map (fun i => (i.zero, i.size, i.bytes)) = some (some (.agg #[.int .i64 0, .int .i64 0]), 2, 16) := by kernel_rfl
  obtain ⟨i0, hi0, hz0, hz1, hz2⟩ := info_parts hinfo
  have hsz : ∀ w, (Go.sizeOf 116).run Try.prog w = .ok 2 w := fun w => by simp [sizeOf, typeInfo, hi0, hz1]
  have hsa : w.shape? h = some (116, cs.size) := by simp [World.shape?, hh]
  have hsb : w.shape? g = some (116, cur.size) := by simp [World.shape?, hg]
  rw [run_callFunc_extern Try.func62 (by kernel_rfl) (by kernel_rfl) (by kernel_rfl) (e := Extern.SlicesOverlaps.overlaps #[112, 112] #[4]) (by kernel_rfl),
    Lib.run_overlaps_apart w 112 4 116 Try.underlying112 2 hsz ⟨h, o, none⟩ ⟨g, o2, none⟩ m vc lb cb hne _ _ _ _ hsa hsb hc (frozen_of_row _ _ _ _ _ hh) (frozen_of_row _ _ _ _ _ hh)]
  rfl

theorem shift_list (P M S vs : List Value) (hv : vs.length = 2) (hS : 2 ≤ S.length) :
    (((P ++ M ++ S).take (P.length + 2) ++ M ++ (P ++ M ++ S).drop (P.length + 2 + M.length)).take P.length ++ vs ++ ((P ++ M ++ S).take (P.length + 2) ++ M ++ (P ++ M ++ S).drop (P.length + 2 + M.length)).drop (P.length + 2)) = P ++ vs ++ M ++ S.drop 2 := by
  have e1 : (P ++ M ++ S).take (P.length + 2) = P ++ (M ++ S).take 2 := by rw [List.append_assoc, List.take_length_add_append]
  have e2 : (P ++ M ++ S).drop (P.length + 2 + M.length) = S.drop 2 := by
    rw [List.append_assoc, Nat.add_assoc, List.drop_length_add_append, Nat.add_comm, List.drop_length_add_append]
  have l2 : ((M ++ S).take 2).length = 2 := by rw [List.length_take, List.length_append]; omega
  rw [e1, e2]
  have e3 : (P ++ (M ++ S).take 2 ++ M ++ S.drop 2).take P.length = P := by rw [List.append_assoc, List.append_assoc, List.take_left']; rfl
  have e4 : (P ++ (M ++ S).take 2 ++ M ++ S.drop 2).drop (P.length + 2) = M ++ S.drop 2 := by
    rw [List.append_assoc, List.append_assoc, List.drop_length_add_append, List.drop_left' l2]
  rw [e3, e4]
  simp only [List.append_assoc]

/-- A row's cells in three parts: ahead of element i, from it on, behind all. -/
theorem row_parts (cur : List Value) (xs : List Value) (i n : Nat) (hi : i ≤ n) (h : cur.take (n * 2) = xs) : cur = xs.take (i * 2) ++ xs.drop (i * 2) ++ cur.drop (n * 2) := by
  rw [List.take_append_drop, ← h, List.take_append_drop]

theorem two_one (a b : Int) : ∀ u ∈ [Value.int .i64 a, .int .i64 b], u.oneCell' = true := by
  intro u hu
  simp only [List.mem_cons, List.not_mem_nil, or_false] at hu
  rcases hu with rfl | rfl <;> rfl

/-- Cells read out of a row that a slice shows. -/
theorem row_at (w : World) (base g n cap i : Nat) (xs : List Value) (hx : w.ownsRow base 116 2 (.slice (some ⟨g, 0, none⟩) n cap) n xs) (j : Nat) (v : Value) (hj : (xs.drop (i * 2))[j]? = some v) : w.cell? ((⟨g, i * 2, none⟩ : Addr).add j) = some v := by
  rw [List.getElem?_drop] at hj
  have := World.ownsRow.cells hx (g := g) rfl _ v hj
  rw [Addr.add_lit, Nat.zero_add] at this
  rw [Addr.add_lit]
  exact this

set_option maxRecDepth 100000 in
set_option maxHeartbeats 4000000 in
/-- INSERT behind all. -/
theorem ins_end (w : World) (base g n cap h : Nat) (b0 b1 : Int) (xs : List Value) (hx : w.ownsRow base 116 2 (.slice (some ⟨g, 0, none⟩) n cap) n xs) (hh : w.heap[h]? = some (.cells #[.int .i64 b0, .int .i64 b1] 116 (0, 0))) (hbase : base ≤ w.heap.size) (hn : n ≤ 1000000) :
    Calls Try.prog 61 #[.slice (some ⟨g, 0, none⟩) n cap, .int .i64 n, .slice (some ⟨h, 0, none⟩) 1 1] w (RepPost w base g (n + 1) (xs ++ [.int .i64 b0, .int .i64 b1])) := by
  obtain ⟨zs, hzs⟩ : ∃ zs, zs = xs ++ [Value.int .i64 b0, .int .i64 b1] := ⟨_, rfl⟩
  obtain ⟨cur, hg, hsz, htk, hcap, hcm, hb⟩ := owns_setRow hx
  have hcm' : cap ≤ 9223372036854775807 := by unfold maxLen at hcm; exact hcm
  obtain ⟨ad, cp, w', hrun, h1, h2, h3⟩ := run_apps2 w 112 base 112 116 2 16 (.agg #[.int .i64 0, .int .i64 0]) Try.underlying112 (by kernel_rfl) rfl (by omega) (.slice (some ⟨g, 0, none⟩) n cap) (.slice (some ⟨h, 0, none⟩) 1 1) n 1 xs [.int .i64 b0, .int .i64 b1] hx
    (.inr ⟨⟨h, 0, none⟩, 1, rfl, fun j y hj => by rw [Addr.add_lit, Nat.zero_add, cell_of_row _ _ _ _ _ _ hh]; simpa using hj⟩) rfl (two_one b0 b1) (by omega) (by omega) hbase
  obtain ⟨q, rfl⟩ : ∃ q, ad = some ⟨q, 0, none⟩ := by
    rcases h1.2 with ⟨hv, hn⟩ | ⟨g', cap', cur', hv, _⟩
    · omega
    · simp only [Value.slice.injEq] at hv
      exact ⟨g', hv.1⟩
  rw [← hzs] at h1 ⊢
  have HP := hid (show RepPost w base g (n + 1) zs (.returned (.slice (some ⟨q, 0, none⟩) (n + 1) cp)) w' from ⟨q, cp, rfl, h1, by
    rcases h3 q rfl with e | e
    · left; simpa [Value.ownBlock] using e.symm
    · exact .inr e, (Keeps.of_grown h2).mono (fun i _ e => by simpa [Value.ownBlock] using e.symm)⟩)
  have HR := hid hrun
  have hcn : (n : Int) ≤ (cap : Int) := by omega
  clear hzs hx hh hbase hg hsz htk hcap hcm hb hrun h1 h2 h3
  go_enter Try.func61, Try.ntmps61
  go_wp2_with (first
    | (at_builtin; refine ap_run rfl 112 112 (.tmp 23) (.tmp 24) rfl _ _ _ _ rfl rfl HR.out ?_)
    | fail)
  all_goals
    go_ret
    exact HP.out

/-- A row with its cells from element i on written: what a slice of it shows then. -/
theorem row_put (w : World) (base g n cap : Nat) (xs : List Value) (cur : Array Value) (hb : base ≤ g) (hg : w.heap[g]? = some (.cells cur 116 (0, 0))) (hsz : cur.size = cap * 2) (hcm : cap ≤ maxLen) (hn : n ≤ cap) (hxs : cur.toList.take (n * 2) = xs) (hl : xs.length = n * 2) :
    w.ownsRow base 116 2 (.slice (some ⟨g, 0, none⟩) n cap) n xs := ⟨hl, .inr ⟨g, cap, cur, rfl, hb, hg, hn, hcm, hsz, hxs⟩⟩

set_option maxRecDepth 100000 in
set_option maxHeartbeats 4000000 in
/-- INSERT where there is room: what lies from i on is shifted. -/
theorem ins_shift (w : World) (base g n cap h i : Nat) (b0 b1 : Int) (xs : List Value) (hx : w.ownsRow base 116 2 (.slice (some ⟨g, 0, none⟩) n cap) n xs) (hh : w.heap[h]? = some (.cells #[.int .i64 b0, .int .i64 b1] 116 (0, 0))) (hne : h ≠ g) (hi : i < n) (hroom : n + 1 ≤ cap) (hn : n ≤ 1000000) (h1 : ∀ u ∈ xs, u.oneCell' = true) :
    Calls Try.prog 61 #[.slice (some ⟨g, 0, none⟩) n cap, .int .i64 i, .slice (some ⟨h, 0, none⟩) 1 1] w (RepPost w base g (n + 1) (xs.take (i * 2) ++ [.int .i64 b0, .int .i64 b1] ++ xs.drop (i * 2))) := by
  obtain ⟨zs, hzs⟩ : ∃ zs, zs = xs.take (i * 2) ++ [Value.int .i64 b0, .int .i64 b1] ++ xs.drop (i * 2) := ⟨_, rfl⟩
  rw [← hzs]
  obtain ⟨cur, hg, hsz, htk, hcap, hcm, hb⟩ := owns_setRow hx
  have hcm' : cap ≤ 9223372036854775807 := by unfold maxLen at hcm; exact hcm
  have hxl : xs.length = n * 2 := hx.1
  have hpl : (xs.take (i * 2)).length = i * 2 := by rw [List.length_take, hxl]; omega
  have hml : (xs.drop (i * 2)).length = (n - i) * 2 := by rw [List.length_drop, hxl]; omega
  have hcl : cur.toList.length = cap * 2 := by simpa using hsz
  have hov : ∀ lb cb, (callFunc 62 #[.slice (some ⟨h, 0, none⟩) 1 1, .slice (some ⟨g, (i + 1) * 2, none⟩) lb cb]).run Try.prog w = .ok (.value (.bool false)) w := fun lb cb => run_ovl w h 0 1 1 g _ lb cb _ _ hh hg hne (by omega)
  obtain ⟨c1, hc1⟩ : ∃ c1, c1 = (cur.toList.take ((i + 1) * 2) ++ xs.drop (i * 2) ++ cur.toList.drop ((i + 1) * 2 + (xs.drop (i * 2)).length)).toArray := ⟨_, rfl⟩
  have hcp1 : ∀ dc sc, (Builtin.copy_ #[112, 112] 3 #[.slice (some ⟨g, (i + 1) * 2, none⟩) (n - i) dc, .slice (some ⟨g, i * 2, none⟩) (n + 1 - i) sc]).run Try.prog w.drew = .ok (goInt (n - i : Nat)) (w.drew.setRow g c1) := fun dc sc => by
    rw [hc1]
    exact run_copy_rowK w.drew _ _ _ 116 2 (n - i) g ((i + 1) * 2) (n - i) dc ⟨g, i * 2, none⟩ (n + 1 - i) sc cur 116 (xs.drop (i * 2)) Try.underlying112 (by kernel_rfl) hg (by simp only [Nat.min_def]; split <;> omega) hml (fun j v hj => row_at w base g n cap i xs hx j v hj) (by rw [hml, hsz]; omega) (fun v hv => h1 v (List.mem_of_mem_drop hv))
  obtain ⟨W1, hW1⟩ : ∃ W1, W1 = w.drew.setRow g c1 := ⟨_, rfl⟩
  rw [← hW1] at hcp1
  have hg1 : W1.heap[g]? = some (.cells c1 116 (0, 0)) := by rw [hW1]; exact setRow_heap w.drew g cur _ _ _ hg
  have hh1 : W1.heap[h]? = some (.cells #[.int .i64 b0, .int .i64 b1] 116 (0, 0)) := by rw [hW1]; exact (setRow_other w.drew g h _ hne).trans hh
  have hc1l : c1.size = cap * 2 := by rw [hc1]; simp only [List.size_toArray, List.length_append, List.length_take, List.length_drop, hcl, hxl]; omega
  obtain ⟨c2, hc2⟩ : ∃ c2, c2 = (c1.toList.take (i * 2) ++ [Value.int .i64 b0, .int .i64 b1] ++ c1.toList.drop (i * 2 + 2)).toArray := ⟨_, rfl⟩
  have hcp2 : ∀ dc, (Builtin.copy_ #[112, 112] 3 #[.slice (some ⟨g, i * 2, none⟩) (n + 1 - i) dc, .slice (some ⟨h, 0, none⟩) 1 1]).run Try.prog W1 = .ok (goInt (1 : Nat)) (W1.setRow g c2) := fun dc => by
    rw [hc2]
    exact run_copy_rowK W1 _ _ _ 116 2 1 g (i * 2) (n + 1 - i) dc ⟨h, 0, none⟩ 1 1 c1 116 [Value.int .i64 b0, .int .i64 b1] Try.underlying112 (by kernel_rfl) hg1 (by simp only [Nat.min_def]; split <;> omega) rfl (fun j v hj => by rw [Addr.add_lit, Nat.zero_add, cell_of_row _ _ _ _ _ _ hh1]; simpa using hj) (by rw [hc1l]; simp only [List.length_cons, List.length_nil]; omega) (two_one b0 b1)
  have hkp : Keeps (fun k => k = g) w (W1.setRow g c2) := by
    rw [hW1]
    exact ((Keeps.refl (fun k => k = g) w).drew.trans (setRow_keepsB w.drew g c1)).trans (setRow_keepsB _ g _)
  have hfin : c2.toList = xs.take (i * 2) ++ [Value.int .i64 b0, .int .i64 b1] ++ xs.drop (i * 2) ++ (cur.toList.drop (n * 2)).drop 2 := by
    have hp := row_parts cur.toList xs i n (by omega) htk
    have hs := shift_list (xs.take (i * 2)) (xs.drop (i * 2)) (cur.toList.drop (n * 2)) [Value.int .i64 b0, .int .i64 b1] rfl (by rw [List.length_drop, hcl]; omega)
    rw [← hp, hpl] at hs
    rw [hc2, ← hs, hc1]
    rw [show (i + 1) * 2 = i * 2 + 2 by omega]
  have HP := hid (show RepPost w base g (n + 1) zs (.returned (.slice (some ⟨g, 0, none⟩) (n + 1) cap)) (W1.setRow g c2) from
    ⟨g, cap, rfl, row_put _ base g (n + 1) cap _ c2 hb (setRow_heap W1 g c1 _ _ _ hg1) (by rw [← Array.length_toList, hfin]; simp only [List.length_append, hpl, hml, List.length_drop, hcl, List.length_cons, List.length_nil]; omega) hcm hroom (by
      rw [hfin, hzs]
      exact List.take_left' (by simp only [List.length_append, hpl, hml, List.length_cons, List.length_nil]; omega)) (by rw [hzs]; simp only [List.length_append, hpl, hml, List.length_cons, List.length_nil]; omega), .inl rfl, hkp⟩)
  have HOV := hid hov
  have HC1 := hid hcp1
  have HC2 := hid hcp2
  clear hzs hx hh hg hsz htk hb hxl hpl hml hcl hov hc1 hcp1 hW1 hg1 hh1 hc1l hc2 hcp2 hkp hfin h1 hcm hne
  have hw1 : IntKind.i64.wrap ((i : Int) + 1) = (i : Int) + 1 := by rw [IntKind.wrap_i64]; omega
  have hb1 : (0 : Int) ≤ (i : Int) + 1 := by omega
  have htn : ((i : Int) + 1).toNat = i + 1 := by omega
  have hb2 : (cap = i + 1) = False := eq_false (by omega)
  have hb4 : (cap = i) = False := eq_false (by omega)
  have hb3 : (i : Int) ≤ (n : Int) + 1 := by omega
  have hb5 : (i : Int) + 1 ≤ (n : Int) + 1 := by omega
  have hb6 : (n : Int) + 1 ≤ (cap : Int) := by omega
  have hb7 : ((n : Int) + 1).toNat = n + 1 := by omega
  have hb8 : (i : Int) < (n : Int) := by omega
  have hov := HOV.out
  go_enter Try.func61, Try.ntmps61
  go_upto_region 15 with (first
    | (simp only [hov])
    | fail)
  go_region_held3 (fun _ => True) (trivial)
    (first
      | (refine cp_st rfl 112 112 (.tmp 73) (.tmp 76) rfl _ _ _ _ rfl rfl (HC1.out _ _) ?_)
      | fail)
  have hcp2 := HC2.out
  go_wp2_with fail
  go_ret
  exact HP.out

/-- Noughts behind the first i elements, where there is no room for them: new memory. -/
theorem grow_many (w : World) (base g n cap i k : Nat) (xs : List Value) (hx : w.ownsRow base 116 2 (.slice (some ⟨g, 0, none⟩) n cap) n xs) (hi : i ≤ n) (hgr : cap < i + k) (hk : i + k ≤ 1000002) :
    ∃ c w1 Z, (Builtin.append_ #[112, 3] 112 #[.slice (some ⟨g, 0, none⟩) i cap, .int .i64 (k : Int)]).run Try.prog w = .ok (.slice (some ⟨w.heap.size, 0, none⟩) (i + k) c) w1 ∧ i + k ≤ c ∧ c ≤ maxLen ∧ Below w.heap.size w w1 ∧
      w1.heap[w.heap.size]? = some (.cells Z 116 (0, 0)) ∧ Z.size = c * 2 ∧ Z.toList.take (i * 2) = xs.take (i * 2) := by
  have hinfo : (Try.prog.info? 116).map (fun i => (i.zero, i.size, i.bytes)) = some (some (.agg #[.int .i64 0, .int .i64 0]), 2, 16) := by kernel_rfl
  obtain ⟨i0, hi0, hz0, hz1, hz2⟩ := info_parts hinfo
  have hxl : xs.length = n * 2 := hx.1
  have hpl : (xs.take (i * 2)).length = i * 2 := by rw [List.length_take, hxl]; omega
  obtain ⟨cur, hg, hsz, htk, hcap, hcm, hb⟩ := owns_setRow hx
  have hold : (Builtin.firstCells i0.size i (.slice (some ⟨g, 0, none⟩) i cap)).run Try.prog w.drew = .ok (xs.take (i * 2)).toArray w.drew := by
    have h := run_loadCells_list (P := Try.prog) w.drew ⟨g, 0, none⟩ (xs.take (i * 2)) (fun j v hj => by
      rw [List.getElem?_take] at hj
      split at hj
      · have := World.ownsRow.cells hx (g := g) rfl _ v hj
        exact this
      · cases hj)
    rw [hpl] at h
    simpa [Builtin.firstCells, hz1] using h
  have hr := Lib.run_append_grow_zeros (P := Try.prog) w 112 3 112 116 i0 (.agg #[.int .i64 0, .int .i64 0]) .i64 .i64 Try.underlying112 Try.underlying3 hi0 hz0
    (some ⟨g, 0, none⟩) i cap (xs.take (i * 2)) hold k (by omega) (by omega) hgr (by omega) (by rw [hz2]; omega) (growslice_fits hgr (by rw [hz2]; omega))
  have hge := grownCap_ge w (i + k) cap 116
  have hm : grownCap w (i + k) cap 116 ≤ maxLen := grownCap_le_maxLen w (i + k) cap 116 (by unfold maxLen; omega)
  have hb : Below w.heap.size w w.drew := below_behindB (Below.refl _ w) 1
  refine ⟨_, _, _, hr, hge, hm, hb.alloc (Nat.le_refl _) _, heap_alloc_new w.drew _, ?_, ?_⟩
  · simp only [Array.size_append, List.size_toArray, hpl, size_zeroCells, Value.cells]
    simp
    omega
  · simp only [Array.toList_append, List.append_assoc]
    exact List.take_left' hpl

/-- Cells of two copies into a row: the first at a, the second right behind it. -/
theorem two_copies (Z P vs ys : List Value) (a : Nat) (hp : Z.take a = P) (hl : P.length = a) (hz : a + vs.length + ys.length ≤ Z.length) :
    ∃ R, ((Z.take a ++ vs ++ Z.drop (a + vs.length)).take (a + vs.length) ++ ys ++ (Z.take a ++ vs ++ Z.drop (a + vs.length)).drop (a + vs.length + ys.length)) = P ++ vs ++ ys ++ R ∧ R.length = Z.length - (a + vs.length + ys.length) := by
  rw [hp]
  refine ⟨(P ++ vs ++ Z.drop (a + vs.length)).drop (a + vs.length + ys.length), ?_, ?_⟩
  · rw [List.take_left' (show (P ++ vs).length = a + vs.length by rw [List.length_append, hl])]
  · simp only [List.length_drop, List.length_append, hl]; omega

set_option maxRecDepth 100000 in
set_option maxHeartbeats 4000000 in
/-- INSERT where there is no room: new memory. -/
theorem ins_grow (w : World) (base g n cap h i : Nat) (b0 b1 : Int) (xs : List Value) (hx : w.ownsRow base 116 2 (.slice (some ⟨g, 0, none⟩) n cap) n xs) (hh : w.heap[h]? = some (.cells #[.int .i64 b0, .int .i64 b1] 116 (0, 0))) (hbase : base ≤ w.heap.size) (hi : i < n) (hroom : cap < n + 1) (hn : n ≤ 1000000) (h1 : ∀ u ∈ xs, u.oneCell' = true) :
    Calls Try.prog 61 #[.slice (some ⟨g, 0, none⟩) n cap, .int .i64 i, .slice (some ⟨h, 0, none⟩) 1 1] w (RepPost w base g (n + 1) (xs.take (i * 2) ++ [.int .i64 b0, .int .i64 b1] ++ xs.drop (i * 2))) := by
  obtain ⟨zs, hzs⟩ : ∃ zs, zs = xs.take (i * 2) ++ [Value.int .i64 b0, .int .i64 b1] ++ xs.drop (i * 2) := ⟨_, rfl⟩
  rw [← hzs]
  obtain ⟨k, hk⟩ : ∃ k, k = n + 1 - i := ⟨_, rfl⟩
  obtain ⟨c, w1, Z, hrun, hc2, hcm2, hb1, hz, hzsz, hztk⟩ := grow_many w base g n cap i k xs hx (by omega) (by omega) (by omega)
  have hik : i + k = n + 1 := by omega
  rw [hik] at hrun hc2
  obtain ⟨cur, hg, hsz, htk, hcap, hcm, hb⟩ := owns_setRow hx
  have hlg : g < w.heap.size := (Array.getElem?_eq_some_iff.1 hg).1
  have hlh : h < w.heap.size := (Array.getElem?_eq_some_iff.1 hh).1
  have hxl : xs.length = n * 2 := hx.1
  have hpl : (xs.take (i * 2)).length = i * 2 := by rw [List.length_take, hxl]; omega
  have hml : (xs.drop (i * 2)).length = (n - i) * 2 := by rw [List.length_drop, hxl]; omega
  have hzl : Z.toList.length = c * 2 := by simpa using hzsz
  have hcm' : c ≤ 9223372036854775807 := by unfold maxLen at hcm2; exact hcm2
  obtain ⟨r, hr⟩ : ∃ r, r = w.heap.size := ⟨_, rfl⟩
  rw [← hr] at hrun hz
  have hh1 : w1.heap[h]? = some (.cells #[.int .i64 b0, .int .i64 b1] 116 (0, 0)) := (hb1.block h hlh).trans hh
  obtain ⟨c1, hc1⟩ : ∃ c1, c1 = (Z.toList.take (i * 2) ++ [Value.int .i64 b0, .int .i64 b1] ++ Z.toList.drop (i * 2 + 2)).toArray := ⟨_, rfl⟩
  have hc1l : c1.size = c * 2 := by rw [hc1]; simp only [List.size_toArray, List.length_append, List.length_take, List.length_drop, hzl, List.length_cons, List.length_nil]; omega
  have hcp1 : ∀ dc, (Builtin.copy_ #[112, 112] 3 #[.slice (some ⟨r, i * 2, none⟩) (n + 1 - i) dc, .slice (some ⟨h, 0, none⟩) 1 1]).run Try.prog w1 = .ok (goInt (1 : Nat)) (w1.setRow r c1) := fun dc => by
    rw [hc1]
    exact run_copy_rowK w1 _ _ _ 116 2 1 r (i * 2) (n + 1 - i) dc ⟨h, 0, none⟩ 1 1 Z 116 [Value.int .i64 b0, .int .i64 b1] Try.underlying112 (by kernel_rfl) hz (by simp only [Nat.min_def]; split <;> omega) rfl (fun j v hj => by rw [Addr.add_lit, Nat.zero_add, cell_of_row _ _ _ _ _ _ hh1]; simpa using hj) (by rw [hzsz]; simp only [List.length_cons, List.length_nil]; omega) (two_one b0 b1)
  obtain ⟨W2, hW2⟩ : ∃ W2, W2 = w1.setRow r c1 := ⟨_, rfl⟩
  rw [← hW2] at hcp1
  have hr2 : W2.heap[r]? = some (.cells c1 116 (0, 0)) := by rw [hW2]; exact setRow_heap w1 r Z _ _ _ hz
  have hx2 : W2.ownsRow base 116 2 (.slice (some ⟨g, 0, none⟩) n cap) n xs := by
    have hg2 : W2.heap[g]? = some (.cells cur 116 (0, 0)) := by rw [hW2]; exact ((setRow_other w1 r g _ (by omega)).trans (hb1.block g hlg)).trans hg
    exact row_put W2 base g n cap xs cur hb hg2 hsz hcm hcap htk hxl
  obtain ⟨c2, hc2'⟩ : ∃ c2, c2 = (c1.toList.take ((i + 1) * 2) ++ xs.drop (i * 2) ++ c1.toList.drop ((i + 1) * 2 + (xs.drop (i * 2)).length)).toArray := ⟨_, rfl⟩
  have hcp2 : ∀ dc sc, (Builtin.copy_ #[112, 112] 3 #[.slice (some ⟨r, (i + 1) * 2, none⟩) (n - i) dc, .slice (some ⟨g, i * 2, none⟩) (n - i) sc]).run Try.prog W2.drew = .ok (goInt (n - i : Nat)) (W2.drew.setRow r c2) := fun dc sc => by
    rw [hc2']
    exact run_copy_rowK W2.drew _ _ _ 116 2 (n - i) r ((i + 1) * 2) (n - i) dc ⟨g, i * 2, none⟩ (n - i) sc c1 116 (xs.drop (i * 2)) Try.underlying112 (by kernel_rfl) hr2 (by simp only [Nat.min_def]; split <;> omega) hml (fun j v hj => row_at W2 base g n cap i xs hx2 j v hj) (by rw [hml, hc1l]; omega) (fun v hv => h1 v (List.mem_of_mem_drop hv))
  obtain ⟨R, hR, hRl⟩ := two_copies Z.toList (xs.take (i * 2)) [Value.int .i64 b0, .int .i64 b1] (xs.drop (i * 2)) (i * 2) hztk hpl (by rw [hzl, hml]; simp only [List.length_cons, List.length_nil]; omega)
  have hfin : c2.toList = zs ++ R := by
    rw [hzs, hc2', hc1, ← hR]
    rw [show (i + 1) * 2 = i * 2 + 2 by omega]
    rfl
  have hzsl : zs.length = (n + 1) * 2 := by rw [hzs]; simp only [List.length_append, hpl, hml, List.length_cons, List.length_nil]; omega
  have hkp : Keeps (fun k => k = g) w (W2.drew.setRow r c2) := by
    have k1 : Keeps (fun k => k = r) w1 (W2.drew.setRow r c2) := by
      rw [hW2]
      exact ((setRow_keepsB w1 r c1).drew).trans (setRow_keepsB _ r _)
    have k0 : Keeps (fun k => k = g) w w1 := Keeps.of_below hb1 (fun k h1 h2 => by omega)
    exact k0.trans' k1 (fun q h1 h2 => by omega)
  have HP := hid (show RepPost w base g (n + 1) zs (.returned (.slice (some ⟨r, 0, none⟩) (n + 1) c)) (W2.drew.setRow r c2) from
    ⟨r, c, rfl, row_put _ base r (n + 1) c zs c2 (by omega) (setRow_heap W2.drew r c1 _ _ _ hr2) (by rw [← Array.length_toList, hfin, List.length_append, hzsl, hRl, hzl, hml]; simp only [List.length_cons, List.length_nil]; omega) hcm2 hc2 (by rw [hfin]; exact List.take_left' hzsl) hzsl, .inr (by omega), hkp⟩)
  have HR := hid hrun
  have HC1 := hid hcp1
  have HC2 := hid hcp2
  have hkk : (n : Int) + 1 - (i : Int) = (k : Int) := by omega
  have hb8 : (i : Int) < (n : Int) := by omega
  have hb4 : (cap = i) = False := eq_false (by omega)
  have hb5 : (c = i) = False := eq_false (by omega)
  have hb6 : (c = i + 1) = False := eq_false (by omega)
  have hb7 : (i : Int) ≤ (cap : Int) := by omega
  have hb9 : (cap : Int) < (n : Int) + 1 := by omega
  have hb10 : (i : Int) ≤ (n : Int) + 1 := by omega
  clear hzs hk hx hik hg hh hsz htk hb hlg hlh hxl hpl hml hzl hr hh1 hc1 hc1l hcp1 hW2 hr2 hx2 hc2' hcp2 hR hRl hfin hzsl hkp hrun hztk hzsz hz hb1 h1 hcm
  have hw1 : IntKind.i64.wrap ((i : Int) + 1) = (i : Int) + 1 := by rw [IntKind.wrap_i64]; omega
  have hb11 : (0 : Int) ≤ (i : Int) + 1 := by omega
  have htn : ((i : Int) + 1).toNat = i + 1 := by omega
  have hb12 : (i : Int) + 1 ≤ (n : Int) + 1 := by omega
  have hb13 : (i : Int) ≤ (n : Int) := by omega
  go_enter Try.func61, Try.ntmps61
  go_upto_region 10 with (first
    | (at_builtin; refine ap_run rfl 112 3 (.tmp 34) (.tmp 39) rfl _ _ _ _ rfl rfl HR.out ?_)
    | fail)
  have hcp1 := HC1.out
  go_upto_region 11 with fail
  clear hcp1
  go_region_held3 (fun _ => True) (trivial)
    (first
      | (refine cp_st rfl 112 112 (.tmp 50) (.tmp 53) rfl _ _ _ _ rfl rfl (HC2.out _ _) ?_)
      | fail)
  go_wp2_with fail
  go_ret
  exact HP.out

/-- INSERT of one run. -/
theorem ins_any (w : World) (base g n cap h i : Nat) (b0 b1 : Int) (xs : List Value) (hx : w.ownsRow base 116 2 (.slice (some ⟨g, 0, none⟩) n cap) n xs) (hh : w.heap[h]? = some (.cells #[.int .i64 b0, .int .i64 b1] 116 (0, 0))) (hne : h ≠ g) (hbase : base ≤ w.heap.size) (hi : i ≤ n) (hn : n ≤ 1000000) (h1 : ∀ u ∈ xs, u.oneCell' = true) :
    Calls Try.prog 61 #[.slice (some ⟨g, 0, none⟩) n cap, .int .i64 i, .slice (some ⟨h, 0, none⟩) 1 1] w (RepPost w base g (n + 1) (xs.take (i * 2) ++ [.int .i64 b0, .int .i64 b1] ++ xs.drop (i * 2))) := by
  rcases Nat.lt_or_ge i n with hlt | hge
  · rcases Nat.lt_or_ge cap (n + 1) with hr | hr
    · exact ins_grow w base g n cap h i b0 b1 xs hx hh hbase hlt hr hn h1
    · exact ins_shift w base g n cap h i b0 b1 xs hx hh hne hlt hr hn h1
  · obtain rfl : i = n := by omega
    have hc := ins_end w base g i cap h b0 b1 xs hx hh hbase hn
    have hl : xs.length = i * 2 := hx.1
    rw [List.take_of_length_le (by omega), List.drop_eq_nil_of_le (by omega), List.append_nil]
    exact hc

end Go.Proofs.Ytbagpckiegpalaa
