/-
  Layer 6: the example's map: a run put in front (slices.Replace, Insert), Free; Take.
-/
import Derived.Test.YtbagpckiegpalaaMpC
import Derived.Lib.AppendZerosOnto
import Derived.Laws.CopyRow
import Derived.Test.YtbagpckiegpalaaInw
namespace Go.Proofs.Ytbagpckiegpalaa
open Go.RowKit
set_option linter.unusedVariables false
set_option linter.unusedSimpArgs false

/-- copy, of elements of k cells. -/
theorem run_copy_rowK {P : Program} (w : World) (dT sT ty elem : TypeId) (k n g o dLen dCap : Nat) (a : Addr) (sLen sCap : Nat) (cur : Array Value) (t : TypeId) (cs : List Value)
    (hu : P.underlying dT = some (.slice elem)) (hs : (P.info? elem).map (·.size) = some k)
    (hg : w.heap[g]? = some (.cells cur t (0, 0))) (hn : n = Nat.min sLen dLen) (hk : cs.length = n * k)
    (hsrc : ∀ j v, cs[j]? = some v → w.cell? (a.add j) = some v) (hfit : o + cs.length ≤ cur.size) (h1 : ∀ v ∈ cs, v.oneCell' = true) :
    (Builtin.copy_ #[dT, sT] ty #[.slice (some ⟨g, o, none⟩) dLen dCap, .slice (some a) sLen sCap]).run P w =
      .ok (goInt n) (w.setRow g (cur.toList.take o ++ cs ++ cur.toList.drop (o + cs.length)).toArray) := by
  have hl := run_loadCells_list (P := P) w a cs hsrc
  have hst := run_storeCells_at P g o t cs 0 cur w hg (by simpa using hfit) h1
  cases hq : P.info? elem with
  | none => simp [hq] at hs
  | some i =>
    have hi : i.size = k := by simpa [hq] using hs
    simp [Builtin.copy_, run_underlying hu, Builtin.lenOf, Builtin.firstCells, sizeOf, typeInfo, hq, hi, ← hn, ← hk, hl, hst]

section
variable {w : World} {ops : Array Oper} {rest : List Oper} {o : Oper} {a : Act} {Q : Exit → Act → World → Prop}
theorem ap_run (hgd : o.guard = none) (TS TN : TypeId) (s x : Operand) (ho : o.op = .call { callee := .builtin .append, args := #[s, x], argTypes := #[TS, TN] }) (v u r : Value) (w' : World) (hs : a.eval s = v) (hx : a.eval x = u)
    (hrun : (Builtin.append_ #[TS, TN] o.type #[v, u]).run Try.prog w = .ok r w') (h : wpList Try.prog ops Q rest (a.put o.dst r) w') : wpList Try.prog ops Q (o :: rest) a w :=
  wpList_plain hgd fun _ hK => by
    unfold Oper.wp
    simp [execOp, ho, resolve, invoke, builtin, hs, hx, hrun, Result.andThen]
    exact hK _ _ h
theorem cp_run (hgd : o.guard = none) (TS TN : TypeId) (s x : Operand) (ho : o.op = .call { callee := .builtin .copy, args := #[s, x], argTypes := #[TS, TN] }) (v u r : Value) (w' : World) (hs : a.eval s = v) (hx : a.eval x = u)
    (hrun : (Builtin.copy_ #[TS, TN] o.type #[v, u]).run Try.prog w = .ok r w') (h : wpList Try.prog ops Q rest (a.put o.dst r) w') : wpList Try.prog ops Q (o :: rest) a w :=
  wpList_plain hgd fun _ hK => by
    unfold Oper.wp
    simp [execOp, ho, resolve, invoke, builtin, hs, hx, hrun, Result.andThen]
    exact hK _ _ h
theorem cp_st {K : Act → World → Prop} {E : Prop} (hw : Region.wanted o (yielded ops a.tmps) = true) (TS TN : TypeId) (s x : Operand) (ho : o.op = .call { callee := .builtin .copy, args := #[s, x], argTypes := #[TS, TN] }) (v u r : Value) (w' : World) (hs : a.eval s = v) (hx : a.eval x = u)
    (hrun : (Builtin.copy_ #[TS, TN] o.type #[v, u]).run Try.prog w = .ok r w') (h : K (a.put o.dst r) w') : if Region.wanted o (yielded ops a.tmps) = true then Oper.wp Try.prog o a w K Q else E := by
  rw [if_pos hw]
  unfold Oper.wp
  simp [execOp, ho, resolve, invoke, builtin, hs, hx, hrun, Result.andThen]
  exact h
end

theorem below_setRowB {B g : Nat} {w w' : World} (h : Below B w w') (hg : B ≤ g) (cs : Array Value) : Below B w (w'.setRow g cs) :=
  h.trans (show Below B w' (w'.setRow g cs) from ⟨rfl, rfl, rfl, by simp [World.setRow], fun k hk => setRow_other _ _ k _ (by omega)⟩)

/-- Two noughts behind nothing, where there is room for one: new memory. -/
theorem grow_two (w : World) (g : Nat) : ∃ c w1, (Builtin.append_ #[112, 3] 112 #[.slice (some ⟨g, 0, none⟩) 0 1, .int .i64 2]).run Try.prog w = .ok (.slice (some ⟨w.heap.size, 0, none⟩) 2 c) w1 ∧ 2 ≤ c ∧ c ≤ 9223372036854775807 ∧ Below w.heap.size w w1 ∧
    ∃ Z, w1.heap[w.heap.size]? = some (.cells Z 116 (0, 0)) ∧ Z.size = c * 2 := by
  have hinfo : (Try.prog.info? 116).map (fun i => (i.zero, i.size, i.bytes)) = some (some (.agg #[.int .i64 0, .int .i64 0]), 2, 16) := by kernel_rfl
  obtain ⟨i, hi, hz0, hz1, hz2⟩ := info_parts hinfo
  have hcap : Builtin.nextslicecap (0 + 2) 1 * i.bytes ≤ 281474976710656 := by
    have h : Builtin.nextslicecap (0 + 2) 1 = 2 := by kernel_rfl
    rw [h, hz2]
    omega
  have hr := Lib.run_append_grow_zeros (P := Try.prog) w 112 3 112 116 i (.agg #[.int .i64 0, .int .i64 0]) .i64 .i64 Try.underlying112 Try.underlying3 hi hz0
    (some ⟨g, 0, none⟩) 0 1 [] (by have h := run_loadCells_list (P := Try.prog) w.drew ⟨g, 0, none⟩ [] (by simp); simpa [Builtin.firstCells] using h) 2 (by omega) (by omega) (by omega) (by omega) (by rw [hz2]; omega) hcap
  have hge := grownCap_ge w 2 1 116
  have hm : grownCap w 2 1 116 ≤ 9223372036854775807 := grownCap_le_maxLen w 2 1 116 (by unfold maxLen; omega)
  have hb : Below w.heap.size w w.drew := below_behindB (Below.refl _ w) 1
  refine ⟨_, _, hr, hge, hm, hb.alloc (Nat.le_refl _) _, _, heap_alloc_new w.drew _, ?_⟩
  simp only [Array.size_append, List.size_toArray, List.length_nil, size_zeroCells, Value.cells]
  simp
  omega

set_option maxRecDepth 100000 in
set_option maxHeartbeats 2000000 in
/-- A run in front of one: new memory; all that was stays as it was. -/
theorem insert_one (w : World) (g h : Nat) (a0 a1 b0 b1 : Int) (hg : w.heap[g]? = some (.cells #[.int .i64 a0, .int .i64 a1] 116 (0, 0))) (hh : w.heap[h]? = some (.cells #[.int .i64 b0, .int .i64 b1] 116 (0, 0))) :
    Calls Try.prog 61 #[.slice (some ⟨g, 0, none⟩) 1 1, .int .i64 0, .slice (some ⟨h, 0, none⟩) 1 1] w fun e w' => ∃ a c, e = .returned (.slice a 2 c) ∧ Below w.heap.size w w' := by
  obtain ⟨c, w1, hrun, hc2, hcm, hb1, Z, hz, hzs⟩ := grow_two w g
  have hlg := (Array.getElem?_eq_some_iff.1 hg).1
  have hlh := (Array.getElem?_eq_some_iff.1 hh).1
  have hcp1 := run_copy_rowK (P := Try.prog) w1 112 112 3 116 2 1 w.heap.size 0 2 c ⟨h, 0, none⟩ 1 1 Z 116 [.int .i64 b0, .int .i64 b1] Try.underlying112 (by kernel_rfl) hz rfl rfl (fun j v hv => by
    rw [Addr.add_lit, Nat.zero_add, cell_of_row _ _ _ _ _ _ ((hb1.block h hlh).trans hh)]
    simpa using hv) (by simp; omega) (by simp [Value.oneCell'])
  have hgi : goInt (1 : Nat) = .int .i64 1 := by kernel_rfl
  obtain ⟨w2, hw2⟩ : ∃ z, z = w1.setRow w.heap.size (Z.toList.take 0 ++ [Value.int .i64 b0, Value.int .i64 b1] ++ Z.toList.drop (0 + 2)).toArray := ⟨_, rfl⟩
  have hz2 : w2.heap[w.heap.size]? = some (.cells (Z.toList.take 0 ++ [Value.int .i64 b0, Value.int .i64 b1] ++ Z.toList.drop (0 + 2)).toArray 116 (0, 0)) := by rw [hw2]; exact setRow_heap w1 _ _ _ _ _ hz
  have hb2 : Below w.heap.size w w2 := by rw [hw2]; exact hb1.trans ⟨rfl, rfl, rfl, by simp [World.setRow], fun k hk => setRow_other _ _ k _ (by omega)⟩
  have hcp1' : (Builtin.copy_ #[112, 112] 3 #[.slice (some ⟨w.heap.size, 0, none⟩) 2 c, .slice (some ⟨h, 0, none⟩) 1 1]).run Try.prog w1 = .ok (goInt (1 : Nat)) w2 := by rw [hw2]; exact hcp1
  clear hcp1
  have HCP := hid (fun (W : World) (hW : Below w2.heap.size w2 W) => run_copy_rowK (P := Try.prog) W 112 112 3 116 2 1 w.heap.size 2 1 (c - 1) ⟨g, 0, none⟩ 1 1 _ 116 [.int .i64 a0, .int .i64 a1] Try.underlying112 (by kernel_rfl) ((hW.block _ (Array.getElem?_eq_some_iff.1 hz2).1).trans hz2) rfl rfl (fun j v hv => by
    have hg2 := (hb2.block g hlg).trans hg
    rw [Addr.add_lit, Nat.zero_add, cell_of_row _ _ _ _ _ _ ((hW.block g (Array.getElem?_eq_some_iff.1 hg2).1).trans hg2)]
    simpa using hv) (by simp; omega) (by simp [Value.oneCell']))
  have HB2 := hid hb2
  have HC2 := hid hc2
  clear hg hh hz hzs hb1 hz2 hb2 hw2 hlg hlh
  go_enter Try.func61, Try.ntmps61
  have HRN := hid hrun
  clear hrun
  rw [hgi] at hcp1'
  have hc0 : (2 : Int) ≤ (c : Int) := by have := HC2.out; omega
  go_upto_region 11 with (first
    | (at_builtin; refine ap_run rfl 112 3 (.tmp 34) (.tmp 39) rfl _ _ _ _ rfl rfl HRN.out ?_)
    | fail)
  clear hcp1'
  have HCW := hid (fun (W : World) (hW : Below w2.heap.size w2 W) => HCP.out W hW)
  have hwr1 : IntKind.i64.wrap 1 = 1 := by rw [IntKind.wrap_i64]; rfl
  have hc1 : (c = 1) = False := eq_false (by have := HC2.out; omega)
  go_region_held3 (fun _ => True) (trivial)
    (first
      | (refine cp_st rfl 112 112 (.tmp 50) (.tmp 53) rfl _ _ _ _ rfl rfl (HCP.out w2.drew ((Below.refl _ _).drew)) ?_)
      | fail)
  go_wp2_with fail
  go_ret
  exact ⟨⟨_, _, rfl⟩, below_setRowB HB2.out.drew (Nat.le_refl _) _⟩

set_option maxRecDepth 100000 in
set_option maxHeartbeats 2000000 in
theorem replace_one (w : World) (g h : Nat) (a0 a1 b0 b1 : Int) (hg : w.heap[g]? = some (.cells #[.int .i64 a0, .int .i64 a1] 116 (0, 0))) (hh : w.heap[h]? = some (.cells #[.int .i64 b0, .int .i64 b1] 116 (0, 0))) :
    Calls Try.prog 53 #[.slice (some ⟨g, 0, none⟩) 1 1, .int .i64 0, .int .i64 0, .slice (some ⟨h, 0, none⟩) 1 1] w fun e w' => ∃ a c, e = .returned (.slice a 2 c) ∧ Below w.heap.size w w' := by
  have HI := hid (insert_one w g h a0 a1 b0 b1 hg hh)
  clear hg hh
  go_enter Try.func53, Try.ntmps53
  go_wp2_with (first
    | (go_at_call 61; refine (HI.out).mono ?_; rintro e w2 ⟨a, c, rfl, hb⟩)
    | fail)
  go_ret
  exact ⟨a, c, rfl, hb⟩

set_option maxRecDepth 100000 in
set_option maxHeartbeats 4000000 in
/-- FREE of place 0 where place 2 alone is free. -/
theorem free_zero (w : World) (lo b g : Nat) (h : MC w lo b g 1 2 3) :
    Calls Try.prog 34 #[.pointer (some ⟨b, 0, none⟩), .int .i64 0] w fun e w' => e = .returned (.bool true) ∧ w'.cell? ⟨b, 1, none⟩ = some (.int .i64 2) ∧ Keeps (fun k => k = b) w w' := by
  obtain ⟨⟨c0, c1, c2, c3, c4⟩, -, -, -, -, -⟩ := h.cells
  have HF := hid (find_one w b g lo 1 2 3 0 h (by omega))
  have H := hid h
  clear h
  go_enter Try.func34, Try.ntmps34
  go_upto_region 4 with (first
    | (go_at_call 52; refine (HF.out).mono ?_; rintro e w1 ⟨rfl, hb1⟩)
    | fail)
  have H1 := hid (H.out.below hb1)
  have HB1 := hid hb1
  clear hb1 c0 c1 c2 c3 c4
  obtain ⟨⟨c0, c1, c2, c3, c4⟩, f0, f1, f2, f3, f4⟩ := H1.out.cells
  go_upto_region 7 with fail
  obtain ⟨w2, hw2⟩ : ∃ z, z = w1.alloc (.cells #[.int .i64 0, .int .i64 1] 116) := ⟨_, rfl⟩
  rw [← hw2]
  have HB2 := hid (show Below w1.heap.size w1 w2 by rw [hw2]; exact (Below.refl _ _).alloc (Nat.le_refl _) _)
  have hj0 : w2.heap[w1.heap.size]? = some (.cells #[.int .i64 0, .int .i64 1] 116 (0, 0)) := by rw [hw2]; exact heap_alloc_new _ _
  obtain ⟨j, hj⟩ : ∃ j, j = w1.heap.size := ⟨_, rfl⟩
  rw [← hj] at hj0
  simp only [← hj]
  have HJ := hid hj0
  have H2 := hid (H1.out.below HB2.out)
  clear hw2 hj hj0 c0 c1 c2 c3 c4 f0 f1 f2 f3 f4
  obtain ⟨⟨c0, c1, c2, c3, c4⟩, -, -, -, -, -⟩ := H2.out.cells
  have HBL := hid (show b < w2.heap.size from (Array.getElem?_eq_some_iff.1 H2.out.map).1)
  have HGL := hid (show g < w2.heap.size from (Array.getElem?_eq_some_iff.1 H2.out.run).1)
  have HJL := hid (show j < w2.heap.size from (Array.getElem?_eq_some_iff.1 HJ.out).1)
  go_upto_region 14 with fail
  clear c0 c1 c2 c3 c4
  refine Orders.begins (C := []) (by kernel_rfl) ?_
  refine Orders.inv_at (I := fun L A a w => ∃ (b0 b1 b2 b3 b4 b5 b6 b7 b8 b9 b10 b11 b12 : Bool) (v94 v95 v96 v97 v98 v99 v100 v101 v102 v103 v104 v105 : Value), L = #[b0, b1, b2, b3, b4, b5, b6, b7, b8, b9, b10, b11, b12] ∧ a = ((((((((((((A.put (some 94) v94).put (some 95) v95).put (some 96) v96).put (some 97) v97).put (some 98) v98).put (some 99) v99).put (some 100) v100).put (some 101) v101).put (some 102) v102).put (some 103) v103).put (some 104) v104).put (some 105) v105) ∧ Keeps (fun k => k = b) w2 w ∧ (b12 = false → Below w2.heap.size w2 w) ∧ (b12 = true → ∃ u, w.heap[b]? = some (.cells (#[.int .i64 3, .int .i64 1, (.slice (some ⟨g, 0, none⟩) 1 1)].setIfInBounds 2 u) 114 (0, 0))) ∧ (b12 = true → b0 = true ∧ b1 = true ∧ b2 = true ∧ b3 = true ∧ b4 = true ∧ b5 = true ∧ b6 = true ∧ b7 = true ∧ b8 = true ∧ b9 = true ∧ b11 = true) ∧ (b0 = true → v94 = .pointer (some ⟨b, 0, none⟩)) ∧ (b1 = true → v95 = .pointer (some ⟨b, 0, none⟩)) ∧ (b2 = true → v96 = .pointer (some ⟨b, 0, none⟩)) ∧ (b3 = true → v97 = .pointer (some ⟨b, 2, none⟩)) ∧ (b4 = true → v98 = (.slice (some ⟨g, 0, none⟩) 1 1)) ∧ (b5 = true → v99 = .int .i64 0) ∧ (b6 = true → v100 = .int .i64 0) ∧ (b7 = true → v101 = (.agg #[.int .i64 0, .int .i64 1])) ∧ (b8 = true → (∃ h, v102 = .slice (some ⟨h, 0, none⟩) 1 1 ∧ (b12 = false → w.heap[h]? = some (.cells #[.int .i64 0, .int .i64 1] 116 (0, 0))))) ∧ (b9 = true → (∃ a c, v103 = .slice a 2 c)) ∧ (b10 = true → v104 = .pointer (some ⟨b, 0, none⟩)) ∧ (b11 = true → v105 = .pointer (some ⟨b, 2, none⟩))) ?start ?step ?fin (by kernel_rfl)
  case start => exact ⟨false, false, false, false, false, false, false, false, false, false, false, false, false, undef, undef, undef, undef, undef, undef, undef, undef, undef, undef, undef, undef, rfl, by simp only [Act.put, List.getElem_toArray, List.getElem_cons_succ, List.getElem_cons_zero, List.setIfInBounds_toArray, List.set_cons_zero, List.set_cons_succ], ((Keeps.refl _ _).drew), (fun _ => (Below.refl _ _).drew), (fun h => Bool.noConfusion h), (fun h => Bool.noConfusion h), (fun h => Bool.noConfusion h), (fun h => Bool.noConfusion h), (fun h => Bool.noConfusion h), (fun h => Bool.noConfusion h), (fun h => Bool.noConfusion h), (fun h => Bool.noConfusion h), (fun h => Bool.noConfusion h), (fun h => Bool.noConfusion h), (fun h => Bool.noConfusion h), (fun h => Bool.noConfusion h), (fun h => Bool.noConfusion h), (fun h => Bool.noConfusion h)⟩
  case step =>
    rintro L a w' i ⟨b0, b1, b2, b3, b4, b5, b6, b7, b8, b9, b10, b11, b12, v94, v95, v96, v97, v98, v99, v100, v101, v102, v103, v104, v105, rfl, rfl, W, N, M, D12, C0, C1, C2, C3, C4, C5, C6, C7, C8, C9, C10, C11⟩ hi
    obtain ⟨hlt, hu, hn⟩ := ready_has [[], [], [1], [2], [3], [], [], [], [7], [4, 5, 6, 8], [0, 1, 2, 3, 4, 5, 6, 7, 8, 9], [0, 1, 2, 3, 4, 5, 6, 7, 8, 9, 10], [0, 1, 2, 3, 4, 5, 6, 7, 8, 9, 11]] (by kernel_rfl) (by kernel_rfl) hi
    clear hi
    have hc : i = 0 ∨ i = 1 ∨ i = 2 ∨ i = 3 ∨ i = 4 ∨ i = 5 ∨ i = 6 ∨ i = 7 ∨ i = 8 ∨ i = 9 ∨ i = 10 ∨ i = 11 ∨ i = 12 := (show ∀ i, i < 13 → (i = 0 ∨ i = 1 ∨ i = 2 ∨ i = 3 ∨ i = 4 ∨ i = 5 ∨ i = 6 ∨ i = 7 ∨ i = 8 ∨ i = 9 ∨ i = 10 ∨ i = 11 ∨ i = 12) by decide) i hlt
    clear hlt
    rcases hc with rfl | rfl | rfl | rfl | rfl | rfl | rfl | rfl | rfl | rfl | rfl | rfl | rfl
    · obtain rfl : b0 = false := hu
      clear hn
      refine wpOp_shut rfl (fun K' hK => ?_)
      simp only [Act.put, List.getElem_toArray, List.getElem_cons_succ, List.getElem_cons_zero, List.setIfInBounds_toArray, List.set_cons_zero, List.set_cons_succ]
      go_simp
      refine hK.out _ _ ⟨true, b1, b2, b3, b4, b5, b6, b7, b8, b9, b10, b11, b12, (.pointer (some ⟨b, 0, none⟩)), v95, v96, v97, v98, v99, v100, v101, v102, v103, v104, v105, rfl, by simp only [Act.put, List.getElem_toArray, List.getElem_cons_succ, List.getElem_cons_zero, List.setIfInBounds_toArray, List.set_cons_zero, List.set_cons_succ], W, N, M, (fun h => absurd (D12 h) (by simp)), (fun _ => rfl), C1, C2, C3, C4, C5, C6, C7, C8, C9, C10, C11⟩
    · obtain rfl : b1 = false := hu
      clear hn
      refine wpOp_shut rfl (fun K' hK => ?_)
      simp only [Act.put, List.getElem_toArray, List.getElem_cons_succ, List.getElem_cons_zero, List.setIfInBounds_toArray, List.set_cons_zero, List.set_cons_succ]
      go_simp
      refine hK.out _ _ ⟨b0, true, b2, b3, b4, b5, b6, b7, b8, b9, b10, b11, b12, v94, (.pointer (some ⟨b, 0, none⟩)), v96, v97, v98, v99, v100, v101, v102, v103, v104, v105, rfl, by simp only [Act.put, List.getElem_toArray, List.getElem_cons_succ, List.getElem_cons_zero, List.setIfInBounds_toArray, List.set_cons_zero, List.set_cons_succ], W, N, M, (fun h => absurd (D12 h) (by simp)), C0, (fun _ => rfl), C2, C3, C4, C5, C6, C7, C8, C9, C10, C11⟩
    · obtain rfl : b2 = false := hu
      obtain rfl : b1 = true := hn 1 (by decide)
      clear hn
      refine wpOp_shut rfl (fun K' hK => ?_)
      simp only [Act.put, List.getElem_toArray, List.getElem_cons_succ, List.getElem_cons_zero, List.setIfInBounds_toArray, List.set_cons_zero, List.set_cons_succ]
      have hC1 := (C1 rfl).symm
      subst hC1
      go_simp
      refine hK.out _ _ ⟨b0, true, true, b3, b4, b5, b6, b7, b8, b9, b10, b11, b12, v94, (.pointer (some ⟨b, 0, none⟩)), (.pointer (some ⟨b, 0, none⟩)), v97, v98, v99, v100, v101, v102, v103, v104, v105, rfl, by simp only [Act.put, List.getElem_toArray, List.getElem_cons_succ, List.getElem_cons_zero, List.setIfInBounds_toArray, List.set_cons_zero, List.set_cons_succ], W, N, M, (fun h => absurd (D12 h) (by simp)), C0, C1, (fun _ => rfl), C3, C4, C5, C6, C7, C8, C9, C10, C11⟩
    · obtain rfl : b3 = false := hu
      obtain rfl : b2 = true := hn 2 (by decide)
      clear hn
      refine wpOp_shut rfl (fun K' hK => ?_)
      simp only [Act.put, List.getElem_toArray, List.getElem_cons_succ, List.getElem_cons_zero, List.setIfInBounds_toArray, List.set_cons_zero, List.set_cons_succ]
      have hC2 := (C2 rfl).symm
      subst hC2
      go_simp
      refine hK.out _ _ ⟨b0, b1, true, true, b4, b5, b6, b7, b8, b9, b10, b11, b12, v94, v95, (.pointer (some ⟨b, 0, none⟩)), (.pointer (some ⟨b, 2, none⟩)), v98, v99, v100, v101, v102, v103, v104, v105, rfl, by simp only [Act.put, List.getElem_toArray, List.getElem_cons_succ, List.getElem_cons_zero, List.setIfInBounds_toArray, List.set_cons_zero, List.set_cons_succ], W, N, M, (fun h => absurd (D12 h) (by simp)), C0, C1, C2, (fun _ => rfl), C4, C5, C6, C7, C8, C9, C10, C11⟩
    · obtain rfl : b4 = false := hu
      obtain rfl : b3 = true := hn 3 (by decide)
      clear hn
      refine wpOp_shut rfl (fun K' hK => ?_)
      simp only [Act.put, List.getElem_toArray, List.getElem_cons_succ, List.getElem_cons_zero, List.setIfInBounds_toArray, List.set_cons_zero, List.set_cons_succ]
      have hC3 := (C3 rfl).symm
      subst hC3
      obtain rfl : b12 = false := by
        cases b12 with
        | false => rfl
        | true => exact absurd (D12 rfl) (by simp)
      have e2 : w'.cell? ⟨b, 2, none⟩ = some (.slice (some ⟨g, 0, none⟩) 1 1) := (cell_of_row _ _ _ _ _ _ (((N rfl).block b HBL.out).trans H2.out.map)).trans rfl
      go_simp
      refine hK.out _ _ ⟨b0, b1, b2, true, true, b5, b6, b7, b8, b9, b10, b11, false, v94, v95, v96, (.pointer (some ⟨b, 2, none⟩)), ((.slice (some ⟨g, 0, none⟩) 1 1)), v99, v100, v101, v102, v103, v104, v105, rfl, by simp only [Act.put, List.getElem_toArray, List.getElem_cons_succ, List.getElem_cons_zero, List.setIfInBounds_toArray, List.set_cons_zero, List.set_cons_succ], W, N, M, (fun h => Bool.noConfusion h), C0, C1, C2, C3, (fun _ => rfl), C5, C6, C7, C8, C9, C10, C11⟩
    · obtain rfl : b5 = false := hu
      clear hn
      refine wpOp_shut rfl (fun K' hK => ?_)
      simp only [Act.put, List.getElem_toArray, List.getElem_cons_succ, List.getElem_cons_zero, List.setIfInBounds_toArray, List.set_cons_zero, List.set_cons_succ]
      go_simp
      refine hK.out _ _ ⟨b0, b1, b2, b3, b4, true, b6, b7, b8, b9, b10, b11, b12, v94, v95, v96, v97, v98, (.int .i64 0), v100, v101, v102, v103, v104, v105, rfl, by simp only [Act.put, List.getElem_toArray, List.getElem_cons_succ, List.getElem_cons_zero, List.setIfInBounds_toArray, List.set_cons_zero, List.set_cons_succ], W, N, M, (fun h => absurd (D12 h) (by simp)), C0, C1, C2, C3, C4, (fun _ => rfl), C6, C7, C8, C9, C10, C11⟩
    · obtain rfl : b6 = false := hu
      clear hn
      refine wpOp_shut rfl (fun K' hK => ?_)
      simp only [Act.put, List.getElem_toArray, List.getElem_cons_succ, List.getElem_cons_zero, List.setIfInBounds_toArray, List.set_cons_zero, List.set_cons_succ]
      go_simp
      refine hK.out _ _ ⟨b0, b1, b2, b3, b4, b5, true, b7, b8, b9, b10, b11, b12, v94, v95, v96, v97, v98, v99, (.int .i64 0), v101, v102, v103, v104, v105, rfl, by simp only [Act.put, List.getElem_toArray, List.getElem_cons_succ, List.getElem_cons_zero, List.setIfInBounds_toArray, List.set_cons_zero, List.set_cons_succ], W, N, M, (fun h => absurd (D12 h) (by simp)), C0, C1, C2, C3, C4, C5, (fun _ => rfl), C7, C8, C9, C10, C11⟩
    · obtain rfl : b7 = false := hu
      clear hn
      refine wpOp_shut rfl (fun K' hK => ?_)
      simp only [Act.put, List.getElem_toArray, List.getElem_cons_succ, List.getElem_cons_zero, List.setIfInBounds_toArray, List.set_cons_zero, List.set_cons_succ]
      obtain rfl : b12 = false := by
        cases b12 with
        | false => rfl
        | true => exact absurd (D12 rfl) (by simp)
      have e0 : w'.cell? ⟨j, 0, none⟩ = some (.int .i64 0) := (cell_of_row _ _ _ _ _ _ (((N rfl).block j HJL.out).trans HJ.out)).trans rfl
      have e1 : w'.cell? ⟨j, 1, none⟩ = some (.int .i64 1) := (cell_of_row _ _ _ _ _ _ (((N rfl).block j HJL.out).trans HJ.out)).trans rfl
      go_simp
      refine hK.out _ _ ⟨b0, b1, b2, b3, b4, b5, b6, true, b8, b9, b10, b11, false, v94, v95, v96, v97, v98, v99, v100, ((.agg #[.int .i64 0, .int .i64 1])), v102, v103, v104, v105, rfl, by simp only [Act.put, List.getElem_toArray, List.getElem_cons_succ, List.getElem_cons_zero, List.setIfInBounds_toArray, List.set_cons_zero, List.set_cons_succ], W, N, M, (fun h => Bool.noConfusion h), C0, C1, C2, C3, C4, C5, C6, (fun _ => rfl), C8, C9, C10, C11⟩
    · obtain rfl : b8 = false := hu
      obtain rfl : b7 = true := hn 7 (by decide)
      clear hn
      refine wpOp_shut rfl (fun K' hK => ?_)
      simp only [Act.put, List.getElem_toArray, List.getElem_cons_succ, List.getElem_cons_zero, List.setIfInBounds_toArray, List.set_cons_zero, List.set_cons_succ]
      have hC7 := (C7 rfl).symm
      subst hC7
      obtain rfl : b12 = false := by
        cases b12 with
        | false => rfl
        | true => exact absurd (D12 rfl) (by simp)
      have hN := N rfl
      go_simp
      refine hK.out _ _ ⟨b0, b1, b2, b3, b4, b5, b6, true, true, b9, b10, b11, false, v94, v95, v96, v97, v98, v99, v100, ((.agg #[.int .i64 0, .int .i64 1])), (.slice (some ⟨w'.heap.size, 0, none⟩) 1 1), v103, v104, v105, rfl, by simp only [Act.put, List.getElem_toArray, List.getElem_cons_succ, List.getElem_cons_zero, List.setIfInBounds_toArray, List.set_cons_zero, List.set_cons_succ], (W.alloc _), (fun _ => hN.alloc hN.size _), (fun h => Bool.noConfusion h), (fun h => Bool.noConfusion h), C0, C1, C2, C3, C4, C5, C6, C7, (fun _ => ⟨w'.heap.size, rfl, fun _ => heap_alloc_new w' _⟩), C9, C10, C11⟩
    · obtain rfl : b9 = false := hu
      obtain rfl : b4 = true := hn 4 (by decide)
      obtain rfl : b5 = true := hn 5 (by decide)
      obtain rfl : b6 = true := hn 6 (by decide)
      obtain rfl : b8 = true := hn 8 (by decide)
      clear hn
      refine wpOp_shut rfl (fun K' hK => ?_)
      simp only [Act.put, List.getElem_toArray, List.getElem_cons_succ, List.getElem_cons_zero, List.setIfInBounds_toArray, List.set_cons_zero, List.set_cons_succ]
      obtain rfl : b12 = false := by
        cases b12 with
        | false => rfl
        | true => exact absurd (D12 rfl) (by simp)
      obtain ⟨h, hC8, hh⟩ := C8 rfl
      subst hC8
      have hC4 := (C4 rfl).symm
      subst hC4
      have hC5 := (C5 rfl).symm
      subst hC5
      have hC6 := (C6 rfl).symm
      subst hC6
      have hN := N rfl
      have hh' := hh rfl
      go_simp
      refine (replace_one w' g h 2 3 0 1 ((hN.block g HGL.out).trans H2.out.run) hh').mono ?_
      rintro e w3 ⟨a, c, rfl, hb⟩
      refine hK.out _ _ ⟨b0, b1, b2, b3, true, true, true, b7, true, true, b10, b11, false, v94, v95, v96, v97, ((.slice (some ⟨g, 0, none⟩) 1 1)), (.int .i64 0), (.int .i64 0), v101, (.slice (some ⟨h, 0, none⟩) 1 1), (.slice a 2 c), v104, v105, rfl, by simp only [Act.put, List.getElem_toArray, List.getElem_cons_succ, List.getElem_cons_zero, List.setIfInBounds_toArray, List.set_cons_zero, List.set_cons_succ], (W.trans (Keeps.of_below hb (fun k h1 h2 => by omega))), (fun _ => hN.trans (hb.mono hN.size)), (fun h => Bool.noConfusion h), (fun h => Bool.noConfusion h), C0, C1, C2, C3, C4, C5, C6, C7, (fun _ => ⟨h, rfl, fun _ => (hb.block _ (Array.getElem?_eq_some_iff.1 hh').1).trans hh'⟩), (fun _ => ⟨a, c, rfl⟩), C10, C11⟩
    · obtain rfl : b10 = false := hu
      obtain rfl : b0 = true := hn 0 (by decide)
      obtain rfl : b1 = true := hn 1 (by decide)
      obtain rfl : b2 = true := hn 2 (by decide)
      obtain rfl : b3 = true := hn 3 (by decide)
      obtain rfl : b4 = true := hn 4 (by decide)
      obtain rfl : b5 = true := hn 5 (by decide)
      obtain rfl : b6 = true := hn 6 (by decide)
      obtain rfl : b7 = true := hn 7 (by decide)
      obtain rfl : b8 = true := hn 8 (by decide)
      obtain rfl : b9 = true := hn 9 (by decide)
      clear hn
      refine wpOp_shut rfl (fun K' hK => ?_)
      simp only [Act.put, List.getElem_toArray, List.getElem_cons_succ, List.getElem_cons_zero, List.setIfInBounds_toArray, List.set_cons_zero, List.set_cons_succ]
      have hC0 := (C0 rfl).symm
      subst hC0
      have hC1 := (C1 rfl).symm
      subst hC1
      have hC2 := (C2 rfl).symm
      subst hC2
      have hC3 := (C3 rfl).symm
      subst hC3
      have hC4 := (C4 rfl).symm
      subst hC4
      have hC5 := (C5 rfl).symm
      subst hC5
      have hC6 := (C6 rfl).symm
      subst hC6
      have hC7 := (C7 rfl).symm
      subst hC7
      go_simp
      refine hK.out _ _ ⟨true, true, true, true, true, true, true, true, true, true, true, b11, b12, (.pointer (some ⟨b, 0, none⟩)), (.pointer (some ⟨b, 0, none⟩)), (.pointer (some ⟨b, 0, none⟩)), (.pointer (some ⟨b, 2, none⟩)), ((.slice (some ⟨g, 0, none⟩) 1 1)), (.int .i64 0), (.int .i64 0), ((.agg #[.int .i64 0, .int .i64 1])), v102, v103, (.pointer (some ⟨b, 0, none⟩)), v105, rfl, by simp only [Act.put, List.getElem_toArray, List.getElem_cons_succ, List.getElem_cons_zero, List.setIfInBounds_toArray, List.set_cons_zero, List.set_cons_succ], W, N, M, D12, C0, C1, C2, C3, C4, C5, C6, C7, C8, C9, (fun _ => rfl), C11⟩
    · obtain rfl : b11 = false := hu
      obtain rfl : b0 = true := hn 0 (by decide)
      obtain rfl : b1 = true := hn 1 (by decide)
      obtain rfl : b2 = true := hn 2 (by decide)
      obtain rfl : b3 = true := hn 3 (by decide)
      obtain rfl : b4 = true := hn 4 (by decide)
      obtain rfl : b5 = true := hn 5 (by decide)
      obtain rfl : b6 = true := hn 6 (by decide)
      obtain rfl : b7 = true := hn 7 (by decide)
      obtain rfl : b8 = true := hn 8 (by decide)
      obtain rfl : b9 = true := hn 9 (by decide)
      obtain rfl : b10 = true := hn 10 (by decide)
      clear hn
      refine wpOp_shut rfl (fun K' hK => ?_)
      simp only [Act.put, List.getElem_toArray, List.getElem_cons_succ, List.getElem_cons_zero, List.setIfInBounds_toArray, List.set_cons_zero, List.set_cons_succ]
      have hC0 := (C0 rfl).symm
      subst hC0
      have hC1 := (C1 rfl).symm
      subst hC1
      have hC2 := (C2 rfl).symm
      subst hC2
      have hC3 := (C3 rfl).symm
      subst hC3
      have hC4 := (C4 rfl).symm
      subst hC4
      have hC5 := (C5 rfl).symm
      subst hC5
      have hC6 := (C6 rfl).symm
      subst hC6
      have hC7 := (C7 rfl).symm
      subst hC7
      have hC10 := (C10 rfl).symm
      subst hC10
      go_simp
      refine hK.out _ _ ⟨true, true, true, true, true, true, true, true, true, true, true, true, b12, (.pointer (some ⟨b, 0, none⟩)), (.pointer (some ⟨b, 0, none⟩)), (.pointer (some ⟨b, 0, none⟩)), (.pointer (some ⟨b, 2, none⟩)), ((.slice (some ⟨g, 0, none⟩) 1 1)), (.int .i64 0), (.int .i64 0), ((.agg #[.int .i64 0, .int .i64 1])), v102, v103, (.pointer (some ⟨b, 0, none⟩)), (.pointer (some ⟨b, 2, none⟩)), rfl, by simp only [Act.put, List.getElem_toArray, List.getElem_cons_succ, List.getElem_cons_zero, List.setIfInBounds_toArray, List.set_cons_zero, List.set_cons_succ], W, N, M, (fun h => absurd (D12 h) (by simp)), C0, C1, C2, C3, C4, C5, C6, C7, C8, C9, C10, (fun _ => rfl)⟩
    · obtain rfl : b12 = false := hu
      obtain rfl : b0 = true := hn 0 (by decide)
      obtain rfl : b1 = true := hn 1 (by decide)
      obtain rfl : b2 = true := hn 2 (by decide)
      obtain rfl : b3 = true := hn 3 (by decide)
      obtain rfl : b4 = true := hn 4 (by decide)
      obtain rfl : b5 = true := hn 5 (by decide)
      obtain rfl : b6 = true := hn 6 (by decide)
      obtain rfl : b7 = true := hn 7 (by decide)
      obtain rfl : b8 = true := hn 8 (by decide)
      obtain rfl : b9 = true := hn 9 (by decide)
      obtain rfl : b11 = true := hn 11 (by decide)
      clear hn
      refine wpOp_shut rfl (fun K' hK => ?_)
      simp only [Act.put, List.getElem_toArray, List.getElem_cons_succ, List.getElem_cons_zero, List.setIfInBounds_toArray, List.set_cons_zero, List.set_cons_succ]
      obtain ⟨a, c, hC9⟩ := C9 rfl
      subst hC9
      have hC0 := (C0 rfl).symm
      subst hC0
      have hC1 := (C1 rfl).symm
      subst hC1
      have hC2 := (C2 rfl).symm
      subst hC2
      have hC3 := (C3 rfl).symm
      subst hC3
      have hC4 := (C4 rfl).symm
      subst hC4
      have hC5 := (C5 rfl).symm
      subst hC5
      have hC6 := (C6 rfl).symm
      subst hC6
      have hC7 := (C7 rfl).symm
      subst hC7
      have hC11 := (C11 rfl).symm
      subst hC11
      have hN := N rfl
      have hm : w'.heap[b]? = _ := (hN.block b HBL.out).trans H2.out.map
      have e2 : w'.cell? ⟨b, 2, none⟩ = some (.slice (some ⟨g, 0, none⟩) 1 1) := (cell_of_row _ _ _ _ _ _ hm).trans rfl
      have z2 : w'.frozen? ⟨b, 2, none⟩ = false := frozen_of_row _ _ _ _ _ hm
      go_simp
      refine hK.out _ _ ⟨true, true, true, true, true, true, true, true, true, true, b10, true, true, (.pointer (some ⟨b, 0, none⟩)), (.pointer (some ⟨b, 0, none⟩)), (.pointer (some ⟨b, 0, none⟩)), (.pointer (some ⟨b, 2, none⟩)), ((.slice (some ⟨g, 0, none⟩) 1 1)), (.int .i64 0), (.int .i64 0), ((.agg #[.int .i64 0, .int .i64 1])), v102, (.slice a 2 c), v104, (.pointer (some ⟨b, 2, none⟩)), rfl, by simp only [Act.put, List.getElem_toArray, List.getElem_cons_succ, List.getElem_cons_zero, List.setIfInBounds_toArray, List.set_cons_zero, List.set_cons_succ], (W.setCell (p := ⟨b, 2, none⟩) (fun _ => rfl) _), (fun h => Bool.noConfusion h), (fun _ => ⟨_, setCell_heapS _ _ _ _ _ _ _ hm⟩), (fun _ => ⟨rfl, rfl, rfl, rfl, rfl, rfl, rfl, rfl, rfl, rfl, rfl⟩), C0, C1, C2, C3, C4, C5, C6, C7, (fun h => by obtain ⟨h1, h2, _⟩ := C8 h; exact ⟨h1, h2, fun h => Bool.noConfusion h⟩), (fun _ => ⟨a, c, rfl⟩), C10, C11⟩
  case fin =>
    rintro L a w' ⟨b0, b1, b2, b3, b4, b5, b6, b7, b8, b9, b10, b11, b12, v94, v95, v96, v97, v98, v99, v100, v101, v102, v103, v104, v105, rfl, rfl, W, N, M, D12, C0, C1, C2, C3, C4, C5, C6, C7, C8, C9, C10, C11⟩ hr
    have hz : b0 = true ∧ b1 = true ∧ b2 = true ∧ b3 = true ∧ b4 = true ∧ b5 = true ∧ b6 = true ∧ b7 = true ∧ b8 = true ∧ b9 = true ∧ b10 = true ∧ b11 = true ∧ b12 = true := by
      have h := ready_done (by kernel_rfl) (by kernel_rfl) hr
      simpa only [List.all_cons, List.all_nil, id, Bool.and_true, Bool.and_eq_true] using h
    obtain ⟨rfl, rfl, rfl, rfl, rfl, rfl, rfl, rfl, rfl, rfl, rfl, rfl, rfl⟩ := hz
    clear hr
    simp only [Act.put, List.getElem_toArray, List.getElem_cons_succ, List.getElem_cons_zero, List.setIfInBounds_toArray, List.set_cons_zero, List.set_cons_succ]
    obtain ⟨u, hM⟩ := M rfl
    have HW' := hid W
    have HM := hid hM
    clear C0 C1 C2 C3 C4 C5 C6 C7 C8 C9 C10 C11 D12 W N M hM
    obtain ⟨w4, hw4⟩ : ∃ z, z = w' := ⟨_, rfl⟩
    rw [← hw4] at HW' HM ⊢
    clear hw4
    have e1 : w4.cell? ⟨b, 1, none⟩ = some (.int .i64 1) := (cell_of_row _ _ _ _ _ _ HM.out).trans rfl
    have z1 : w4.frozen? ⟨b, 1, none⟩ = false := frozen_of_row _ _ _ _ _ HM.out
    go_wp2_with fail
    go_ret
    refine ⟨rfl, (cell_of_row _ _ _ _ _ _ (setCell_heapS _ _ _ _ _ _ _ HM.out)).trans rfl, ?_⟩
    exact ((Keeps.of_below (HB1.out) (fun k h1 h2 => by omega)).trans' (Keeps.of_below HB2.out (fun k h1 h2 => by omega)) (fun _ _ e => e)).trans (HW'.out.setCell (p := ⟨b, 1, none⟩) (fun _ => rfl) _)

end Go.Proofs.Ytbagpckiegpalaa
